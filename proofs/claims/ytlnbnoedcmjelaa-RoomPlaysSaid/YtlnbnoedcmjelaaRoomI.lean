/- Layer 10 (room): the document's Use, Free and Lowest. -/
import Derived.Test.YtlnbnoedcmjelaaRoomH
import Derived.Laws.AppendOwnNone
import Derived.IntWalk
namespace Go.Proofs.Ytlnbnoedcmjelaa
open Go.RowKit Room

/-- 'out = append(out, ys...)', wherever ys lies. -/
theorem appS {P : Program} {w : World} {ops : Array Oper} {rest : List Oper} {o : Oper} {a : Act} {Q : Exit → Act → World → Prop} (hgd : o.guard = none) (s x : Operand) (t : TypeId)
    (ho : o.op = .call { callee := .builtin .append, args := #[s, x], argTypes := #[t, t] })
    (base : Nat) (e : TypeId) (z : Value) (bytes : Nat) (ht : P.underlying t = some (.slice e)) (hi : (P.info? e).map (fun i => (i.zero, i.size, i.bytes)) = some (some z, 1, bytes))
    (hzs : z.cells.size = 1) (v : Value) (n : Nat) (xs : List Value) (hs : a.eval s = v) (hown : w.ownsRow base e 1 v n xs) (X : Option Addr) (m c : Nat) (ys : List Value) (h1 : ∀ u ∈ ys, u.oneCell' = true)
    (hx : a.eval x = .slice X m c) (hh : Holds w X m ys) (h0 : X = none → m = 0 ∧ c = 0) (h63 : n + m ≤ maxLen) (hbytes : (n + m) * bytes ≤ 140737488355328) (hbase : base ≤ w.heap.size)
    (h : ∀ v' w', w'.ownsRow base e 1 v' (n + m) (xs ++ ys) → w.grownBy w' v.ownBlock → (v'.ownBlock = v.ownBlock ∨ v'.ownBlock = some w.heap.size) → wpList P ops Q rest (a.put o.dst v') w') :
    wpList P ops Q (o :: rest) a w := by
  obtain ⟨i, hi1, hi2, hi3, hi4⟩ := info_parts hi
  cases X with
  | none =>
    obtain ⟨rfl, rfl⟩ := h0 rfl
    have hy : ys = [] := List.length_eq_zero_iff.1 hh.len
    subst hy
    refine wpList_append_own_none hgd s x t ho base e i 1 ht hi1 v n xs hs hown hx ?_
    exact h v w (by simpa using hown) (grown_kept Kept.refl _) (.inl rfl)
  | some ad =>
    refine wpList_append_own_at _ hgd s x t ho base e i z 1 bytes ht hi1 hi2 hi3 hi4 hzs (by decide) v n xs hs hown ad m c ys hx (by have := hh.len; omega) (fun j u hj => ?_) h1 h63 hbytes hbase fun v' w' h2 h3 _ h5 => h v' w' h2 h3 h5
    have hjm : j < m := by have := hh.len; have := (List.getElem?_eq_some_iff.1 hj).1; omega
    obtain ⟨a', e', _, hc⟩ := hh.at' j hjm
    injection e' with e'
    subst e'
    rw [hc]; exact hj
theorem ivs_one (xs : List Int) : ∀ u ∈ ivs xs, u.oneCell' = true := by
  intro u hu
  simp only [ivs, List.mem_map] at hu
  obtain ⟨x, _, rfl⟩ := hu
  rfl

/-- Why pages can't be turned, by the document; these stand ahead. -/
def wrongR (n : Int) (U : List Int) (must : Bool) : List Int → List Int → Int
  | _, [] => 0
  | d, x :: t => if x < 0 ∨ n ≤ x then 9 else if inL U x = must ∧ inL d x = false then wrongR n U must (d ++ [x]) t else if must then 10 else 11
theorem wrongR_take {n : Int} {U : List Int} {must : Bool} {L : List Int} {k : Nat} (hk : k < L.length) : wrongR n U must (L.take k) (L.drop k) =
    if L[k] < 0 ∨ n ≤ L[k] then 9 else if inL U L[k] = must ∧ inL (L.take k) L[k] = false then wrongR n U must (L.take (k + 1)) (L.drop (k + 1)) else if must then 10 else 11 := by
  rw [List.drop_eq_getElem_cons hk, wrongR, ← List.take_succ_eq_append_getElem hk]
theorem Holds.front {w : World} {a : Addr} {n k : Nat} {L : List Int} (h : Holds w (some a) n (ivs L)) (hn : L.length = n) (hk : k ≤ n) : Holds w (some a) k (ivs (L.take k)) :=
  ⟨by simp; omega, fun j hj => by
    obtain ⟨a', e', hl, hc⟩ := h.at' j (by omega)
    exact ⟨a', e', hl, by rw [hc]; simp [ivs, hj]⟩⟩

theorem in_val {A : Option Addr} {c n : Nat} {l : List Int} {x : Int} {b : Bool} {w : World} (h : inL l x = b) (hn : l.length = n) (hs : Holds w A n (ivs l)) (hl : n ≤ 9223372036854775807) :
    Calls Try.prog 44 #[.slice A n c, .int .i64 x] w fun e w' => e = .returned (.bool b) ∧ w = w' := by
  subst h; exact ref10_in A c n l x w hn hs hl

set_option maxRecDepth 100000 in
set_option maxHeartbeats 2000000 in
theorem ref10_wrong (A B : Option Addr) (c d u m n : Nat) (U L : List Int) (must : Bool) (w : World) (hu : U.length = u) (hm : L.length = m) (ha : Holds w A u (ivs U)) (hb : Holds w B m (ivs L)) (hmd : m ≤ d) (hm9 : m ≤ 1000000) (hu9 : u ≤ 1000000) (hd9 : d ≤ 9223372036854775807) :
    Calls Try.prog 64 #[.slice A u c, .int .i64 n, .slice B m d, .bool must] w fun e w' => e = .returned (.int .i64 (wrongR n U must [] L)) ∧ Kept w w' := by
  have HA := Lib.hid ha
  have HB := Lib.hid hb
  have HM := Lib.hid hm
  have HU := Lib.hid hu
  clear ha hb hu hm
  go_enter Try.func64, Try.ntmps64
  go_wp2_with fail
  go_loopw [9] (fun i wr => ∃ k : Nat, k ≤ m ∧ i = .int .i64 k ∧ Kept w wr ∧ Hid (wrongR n U must [] L = wrongR n U must (L.take k) (L.drop k))) (fun i _ => m - (intOf i).toNat)
  case atStart => exact ⟨0, Nat.zero_le _, rfl, Kept.refl, Lib.hid (by simp)⟩
  case round =>
    obtain ⟨k, hk, rfl, hkw, HW⟩ := hrel
    have HK := Lib.hid hkw
    clear hkw
    by_cases hlt : k < m
    · have hkl : k < L.length := by rw [HM.out]; exact hlt
      have hb' := HB.out.kept HK.out
      obtain ⟨a, e1, hc⟩ := iv_at (xs := L) (by rw [HM.out]; exact hb') hkl
      have HS := Lib.hid (wrongR_take (n := n) (U := U) (must := must) hkl)
      generalize L[k] = x at *
      subst e1
      have HF := Lib.hid (hb'.front HM.out (Nat.le_of_lt hlt))
      clear hb'
      have hi : (k : Int) < (m : Int) := by omega
      by_cases x0 : x < 0
      · have HE := Lib.hid (show wrongR n U must [] L = 9 by rw [HW.out, HS.out, if_pos (.inl x0)])
        go_wp2_with fail
        go_ret
        exact ⟨ret_int HE.out.symm, HK.out⟩
      · by_cases x1 : (n : Int) ≤ x
        · have HE := Lib.hid (show wrongR n U must [] L = 9 by rw [HW.out, HS.out, if_pos (.inr x1)])
          go_wp2_with fail
          go_ret
          exact ⟨ret_int HE.out.symm, HK.out⟩
        · have HE := Lib.hid (show wrongR n U must [] L = if inL U x = must ∧ inL (L.take k) x = false then wrongR n U must (L.take (k + 1)) (L.drop (k + 1)) else if must then 10 else 11 by
            rw [HW.out, HS.out, if_neg (by omega)])
          have HA2 := Lib.hid (HA.out.kept HK.out)
          have q1 : (k : Int) ≤ (d : Int) := by omega
          have q2 : (0 : Int) ≤ (k : Int) := by omega
          have HTL := Lib.hid (show (L.take k).length = k by rw [List.length_take, HM.out]; omega)
          obtain ⟨b1, hb1⟩ : ∃ b, inL U x = b := ⟨_, rfl⟩
          obtain ⟨b2, hb2⟩ : ∃ b, inL (L.take k) x = b := ⟨_, rfl⟩
          have HB1 := Lib.hid hb1
          have HB2 := Lib.hid hb2
          rw [hb1, hb2] at HE
          clear hb1 hb2
          go_wp2_with fail
          cases must <;> cases b1 <;> cases b2
          all_goals
            go_quiet ((go_at_call 44; first | exact quietL (in_val HB1.out HU.out (HA2.out.kept (Kept.refl.drewN _)) (by omega)) | exact quietL (in_val HB2.out HTL.out (HF.out.kept (Kept.refl.drewN _)) (by omega))))
            go_wp2_with fail
          all_goals first
            | (go_ret; exact ⟨ret_int (by rw [HE.out]; rfl), HK.out.drewN _⟩)
            | (go_roundw
               case rel => exact ⟨k + 1, by omega, by go_num, HK.out.drewN _, Lib.hid (by rw [HE.out]; rfl)⟩
               case measure => simp [intOf]; omega)
    · have HE := Lib.hid (show wrongR n U must [] L = 0 by rw [HW.out, List.drop_eq_nil_of_le (by rw [HM.out]; omega), wrongR])
      go_wp2_with fail
      go_ret
      exact ⟨ret_int HE.out.symm, HK.out⟩

end Go.Proofs.Ytlnbnoedcmjelaa
