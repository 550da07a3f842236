/- Layer 1 (num): rows of numbers: the walks. -/
import Derived.Test.YtflgjcajfefamaaNumO
import Derived.Test.YtflgjcajfefamaaBld
namespace Go.Proofs.Ytflgjcajfefamaa
open Go.RowKit Num

/-- The bytes of numbers, one behind the other. -/
def rowB (l : List Nat) : List UInt8 := l.flatMap pt
theorem rowB_snoc (l : List Nat) (n : Nat) : rowB (l ++ [n]) = rowB l ++ pt n := by simp [rowB]
theorem rowB_len : ∀ l : List Nat, (rowB l).length ≤ 9 * l.length ∧ l.length ≤ (rowB l).length
  | [] => by simp [rowB]
  | n :: l => by
    have := rowB_len l
    have h := sz_range n
    simp only [rowB, List.flatMap_cons, List.length_append, pt_len, List.length_cons] at *
    omega
/-- Bytes are those of one list at most, and what stands behind some of them is a list's, too. -/
theorem rowB_rest : ∀ (l m : List Nat) (c : List UInt8), (∀ n ∈ l, U64 n) → (∀ n ∈ m, U64 n) → rowB m = rowB l ++ c → ∃ r, m = l ++ r ∧ c = rowB r
  | [], m, c, _, _, h => ⟨m, rfl, by simpa [rowB] using h.symm⟩
  | n :: l, [], c, _, _, h => by
    have := congrArg List.length h
    have h1 := sz_range n
    simp [rowB, pt_len] at this
    omega
  | n :: l, x :: m, c, hl, hm, h => by
    simp only [rowB, List.flatMap_cons, List.append_assoc] at h
    have h1 := tk_pt (hm x (List.mem_cons_self ..)) (rowB m)
    have h2 := tk_pt (hl n (List.mem_cons_self ..)) (rowB l ++ c)
    have h' : pt x ++ rowB m = pt n ++ (rowB l ++ c) := h
    rw [h', h2] at h1
    simp only [Option.some.injEq, Prod.mk.injEq] at h1
    obtain ⟨rfl, _⟩ := h1
    obtain ⟨r, e, e'⟩ := rowB_rest l m c (fun k hk => hl k (List.mem_cons_of_mem _ hk)) (fun k hk => hm k (List.mem_cons_of_mem _ hk)) (List.append_cancel_left h')
    exact ⟨r, by rw [e]; rfl, e'⟩
theorem rowB_inj {l m : List Nat} (hl : ∀ n ∈ l, U64 n) (hm : ∀ n ∈ m, U64 n) (h : rowB l = rowB m) : l = m := by
  obtain ⟨r, e, e'⟩ := rowB_rest l m [] hl hm (by rw [h, List.append_nil])
  cases r with
  | nil => rw [e, List.append_nil]
  | cons x r =>
    have := congrArg List.length e'
    have h1 := sz_range x
    simp [rowB, pt_len] at this
    omega

/-- Numbers as values. -/
def nvs (l : List Nat) : List Value := l.map fun n : Nat => .int .u64 n
theorem nvs_len (l : List Nat) : (nvs l).length = l.length := by simp [nvs]
theorem nat_at {w : World} {A : Option Addr} {xs : List Nat} {k : Nat} (hs : Holds w A xs.length (nvs xs)) (hk : k < xs.length) :
    ∃ a, A = some a ∧ w.cell? (a.add k) = some (.int .u64 xs[k]) := by
  obtain ⟨a, v, e, _, hv, hc⟩ := hs.get hk
  refine ⟨a, e, hc.trans ?_⟩
  rw [← hv]; simp [nvs, hk]

theorem num_row (A : Option Addr) (c : Nat) (xs : List Nat) (w : World) (hx : ∀ n ∈ xs, U64 n) (hs : Holds w A xs.length (nvs xs)) (hl : xs.length ≤ 200) :
    Calls Try.prog 27 #[.slice A xs.length c] w fun e w' => e = .returned (.string ⟨(rowB xs).toArray⟩) ∧ Kept w w' := by
  have HX := Lib.hid hx
  have HS := Lib.hid hs
  clear hx hs
  go_enter Try.func27, Try.ntmps27
  go_wp2_with fail
  go_loopw [8] (fun i wr => ∃ k : Nat, k ≤ xs.length ∧ i = .int .i64 k ∧ BldIs w.heap.size w.heap.size (rowB (xs.take k)) wr ∧ Kept w wr) (fun i _ => xs.length - (intOf i).toNat)
  case atStart => exact ⟨0, Nat.zero_le _, rfl, Lib.fresh_isBuilder _ _ w, Kept.refl.alloc _⟩
  case round =>
    obtain ⟨k, hk, rfl, hb, hkw⟩ := hrel
    have HB := Lib.hid hb
    clear hb
    have hz := hkw.size
    by_cases hlt : k < xs.length
    · obtain ⟨a, rfl, hc⟩ := nat_at (HS.out.kept hkw) hlt
      have hn := HX.out xs[k] (List.getElem_mem hlt)
      have HT := Lib.hid (show rowB (xs.take (k + 1)) = rowB (xs.take k) ++ pt xs[k] by rw [List.take_succ_eq_append_getElem hlt, rowB_snoc])
      have hlen := (rowB_len (xs.take k)).1
      have hlk : (xs.take k).length ≤ k := List.length_take_le ..
      have hpl := pt_len xs[k]
      have hpr := sz_range xs[k]
      generalize xs[k] = n at *
      have hpt : (pt n).length ≤ 9 := by omega
      have HP := Lib.hid hpt
      clear hpl hpr hpt
      go_wp2_with fail
      refine (num_put n _ hn).mono ?_
      rintro e w1 ⟨rfl, hk1⟩
      have hz1 := hk1.size
      go_wp2_with fail
      refine (bld_write w.heap.size w.heap.size (rowB (xs.take k)) _ _ (bld_kept HB.out hk1) (by have := HP.out; show _ + (pt n).length ≤ _; omega) (by omega)).mono ?_
      rintro e w2 ⟨rfl, hb2, hbel⟩
      have HB2 := Lib.hid hb2
      have HK2 := Lib.hid (show Kept w w2 from (hkw.then hk1).trans hbel)
      clear hb2 hbel
      go_wp2_with fail
      go_roundw
      case rel => exact ⟨k + 1, by omega, by go_num, by rw [HT.out]; exact HB2.out, HK2.out⟩
      case measure => simp [intOf]; omega
    · obtain rfl : k = xs.length := by omega
      go_wp2_with fail
      refine (Try.Builder_String_any w.heap.size w.heap.size (rowB (xs.take xs.length)) _ HB.out (by omega)).mono ?_
      rintro e w1 ⟨rfl, hb1⟩
      rw [List.take_length]
      go_wp2_with fail
      go_ret
      exact ⟨rfl, hkw.trans hb1⟩

theorem ref_row (A : Option Addr) (c : Nat) (xs : List Nat) (w : World) (hx : ∀ n ∈ xs, U64 n) (hs : Holds w A xs.length (nvs xs)) (hl : xs.length ≤ 200) :
    Calls Try.prog 28 #[.slice A xs.length c] w fun e w' => e = .returned (.string ⟨(rowB xs).toArray⟩) ∧ Kept w w' := by
  have HX := Lib.hid hx
  have HS := Lib.hid hs
  clear hx hs
  go_enter Try.func28, Try.ntmps28
  go_wp2_with fail
  go_loopw [3, 4] (fun o i wr => ∃ k : Nat, k ≤ xs.length ∧ i = .int .i64 k ∧ o = .string ⟨(rowB (xs.take k)).toArray⟩ ∧ Kept w wr) (fun _ i _ => xs.length - (intOf i).toNat)
  case atStart => exact ⟨0, Nat.zero_le _, rfl, rfl, Kept.refl⟩
  case round =>
    obtain ⟨k, hk, rfl, rfl, hkw⟩ := hrel
    by_cases hlt : k < xs.length
    · obtain ⟨a, rfl, hc⟩ := nat_at (HS.out.kept hkw) hlt
      have hn := HX.out xs[k] (List.getElem_mem hlt)
      have HT := Lib.hid (show rowB (xs.take (k + 1)) = rowB (xs.take k) ++ pt xs[k] by rw [List.take_succ_eq_append_getElem hlt, rowB_snoc])
      have hlen := (rowB_len (xs.take k)).1
      have hlk : (xs.take k).length ≤ k := List.length_take_le ..
      have hpl : (pt xs[k]).length ≤ 9 := by rw [pt_len]; exact (sz_range _).2
      generalize xs[k] = n at *
      have hl2 : (rowB (xs.take k)).length ≤ 1800 := by omega
      clear hlen
      generalize rowB (xs.take k) = r at *
      go_wp2_with fail
      refine (ref_put n _ hn).mono ?_
      rintro e w1 ⟨rfl, hk1⟩
      go_wp2_with fail
      go_roundw
      case rel => exact ⟨k + 1, by omega, by go_num, by rw [HT.out]; exact congrArg _ (ByteArray.mk_append_mk r (pt n)), hkw.then hk1⟩
      case measure => simp [intOf]; omega
    · obtain rfl : k = xs.length := by omega
      rw [List.take_length]
      go_wp2_with fail
      go_ret
      exact ⟨rfl, hkw⟩

end Go.Proofs.Ytflgjcajfefamaa
