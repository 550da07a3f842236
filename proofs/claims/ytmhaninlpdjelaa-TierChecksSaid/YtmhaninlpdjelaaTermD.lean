/- Layer 5 (term): a row's bytes. -/
import Derived.Test.YtmhaninlpdjelaaTermC
import Derived.Test.YtmhaninlpdjelaaTakeP
namespace Go.Proofs.Ytmhaninlpdjelaa
open Go.RowKit Num

/-- How many bytes two texts begin with alike. -/
def cmn : List UInt8 → List UInt8 → Nat
  | a :: l, b :: m => if a = b then cmn l m + 1 else 0
  | _, _ => 0
theorem cmn_nil (l : List UInt8) : cmn l [] = 0 := by cases l <;> rfl
theorem cmn_le : ∀ (l m : List UInt8), cmn l m ≤ l.length ∧ cmn l m ≤ m.length
  | [], m => by simp [cmn]
  | a :: l, [] => by simp [cmn]
  | a :: l, b :: m => by
    have := cmn_le l m
    unfold cmn
    split <;> simp <;> omega
theorem bt_at {s : ByteArray} {k : Nat} (h : k < s.size) : ∃ h' : k < s.data.toList.length, PlainAid.bt s k = ((s.data.toList[k]'h').toNat : Int) := by
  have hk' : k < s.data.toList.length := by rw [Array.length_toList]; exact h
  refine ⟨hk', ?_⟩
  unfold PlainAid.bt
  rw [dif_pos h]
  rfl
theorem cmn_same {a b : ByteArray} {k : Nat} (ha : k < a.size) (hb : k < b.size) (h : (PlainAid.bt a k == PlainAid.bt b k) = true) :
    k + cmn (a.data.toList.drop k) (b.data.toList.drop k) = (k + 1) + cmn (a.data.toList.drop (k + 1)) (b.data.toList.drop (k + 1)) := by
  obtain ⟨h1, e1⟩ := bt_at ha
  obtain ⟨h2, e2⟩ := bt_at hb
  have h := eq_of_beq h
  rw [e1, e2] at h
  have h : a.data.toList[k] = b.data.toList[k] := UInt8.toNat_inj.1 (by omega)
  rw [List.drop_eq_getElem_cons h1, List.drop_eq_getElem_cons h2, cmn, if_pos h]
  omega
theorem cmn_other {a b : ByteArray} {k : Nat} (ha : k < a.size) (hb : k < b.size) (h : (PlainAid.bt a k == PlainAid.bt b k) = false) :
    cmn (a.data.toList.drop k) (b.data.toList.drop k) = 0 := by
  obtain ⟨h1, e1⟩ := bt_at ha
  obtain ⟨h2, e2⟩ := bt_at hb
  rw [beq_eq_false_iff_ne] at h
  rw [e1, e2] at h
  rw [List.drop_eq_getElem_cons h1, List.drop_eq_getElem_cons h2, cmn, if_neg (fun g => h (by rw [g]))]
theorem cmn_end1 {a b : ByteArray} {k : Nat} (h : a.size ≤ k) : cmn (a.data.toList.drop k) (b.data.toList.drop k) = 0 := by
  rw [List.drop_eq_nil_of_le (by rw [Array.length_toList]; exact h)]; rfl
theorem cmn_end2 {a b : ByteArray} {k : Nat} (h : b.size ≤ k) : cmn (a.data.toList.drop k) (b.data.toList.drop k) = 0 := by
  rw [show b.data.toList.drop k = [] from List.drop_eq_nil_of_le (by rw [Array.length_toList]; exact h), cmn_nil]

def cmS (a b : ByteArray) : Nat := cmn a.data.toList b.data.toList

theorem term_shared (a b : ByteArray) (w : World) (hl : b.size ≤ 9223372036854775807) :
    Calls Try.prog 107 #[.string a, .string b] w fun e w' => e = .returned (.int .i64 (cmS a b)) ∧ Kept w w' := by
  have hb := PlainAid.get_bt a
  have hb' := PlainAid.get_bt b
  go_enter Try.func107, Try.ntmps107
  go_wp2_with fail
  go_loopw [5] (fun o wr => ∃ k : Nat, k ≤ a.size ∧ o = .int .i64 k ∧ Hid (cmS a b = k + cmn (a.data.toList.drop k) (b.data.toList.drop k)) ∧ Kept w wr) (fun o _ => a.size - (intOf o).toNat)
  case atStart => exact ⟨0, Nat.zero_le _, rfl, by unfold Hid; simp [cmS], Kept.refl⟩
  case round =>
    obtain ⟨k, hk, rfl, HF, hkw⟩ := hrel
    by_cases h1 : k < a.size
    · by_cases h2 : k < b.size
      · rcases hq : PlainAid.bt a k == PlainAid.bt b k with _ | _
        · have HE := Lib.hid (cmn_other h1 h2 hq)
          go_wp2_with fail
          go_quiet (fail)
          go_wp2_with fail
          go_ret
          exact ⟨by rw [HF.out, HE.out]; rfl, hkw.drewN _⟩
        · have HE := Lib.hid (cmn_same h1 h2 hq)
          go_wp2_with fail
          go_quiet (fail)
          go_wp2_with fail
          go_roundw
          case rel => exact ⟨k + 1, by omega, by go_num, by unfold Hid; rw [HF.out, HE.out], hkw.drewN _⟩
          case measure => simp [intOf]; omega
      · have HE := Lib.hid (cmn_end2 (a := a) (b := b) (k := k) (by omega))
        go_wp2_with fail
        go_quiet (fail)
        go_wp2_with fail
        go_ret
        exact ⟨by rw [HF.out, HE.out]; rfl, hkw.drewN _⟩
    · have HE := Lib.hid (cmn_end1 (a := a) (b := b) (k := k) (by omega))
      go_wp2_with fail
      go_quiet (fail)
      go_wp2_with fail
      go_ret
      exact ⟨by rw [HF.out, HE.out]; rfl, hkw.drewN _⟩

end Go.Proofs.Ytmhaninlpdjelaa
