/- How many bytes texts have: the statements' own counting. -/
import Derived.Test.YteljkgdecpmocaaDoorTermA
import Derived.Shelf.Small.Bits
import Derived.Lib.Builder
import Derived.Lib.AppendStr
import Derived.Lib.UnsafeStr
import Derived.Laws.Externs
namespace Go.Proofs.YteljkgdecpmocaaDoor
open Go.RowKit

/-- How many bytes texts have, on top of n, as it is counted. -/
def byB : Nat → List ByteArray → Nat
  | n, [] => n
  | n, s :: l => if 1000000 ≤ n + min s.size 1000000 then n + min s.size 1000000 else byB (n + min s.size 1000000) l
theorem byB_sum : ∀ (l : List ByteArray) (n : Nat), byB n l ≤ 3000 → n + (l.map ByteArray.size).sum ≤ byB n l
  | [], n, _ => by simp [byB]
  | s :: l, n, h => by
    unfold byB at h ⊢
    by_cases g : 1000000 ≤ n + min s.size 1000000
    · rw [if_pos g] at h; omega
    · rw [if_neg g] at h ⊢
      have := byB_sum l _ h
      simp only [List.map_cons, List.sum_cons]
      omega

set_option maxRecDepth 100000 in
theorem plain_bytes (A : Option Addr) (c : Nat) (xs : List ByteArray) (w : World) (hs : Holds w A xs.length (svs xs)) (hl : xs.length ≤ 9223372036854775807) :
    Calls Tryd.prog 6 #[.slice A xs.length c] w fun e w' => e = .returned (.int .i64 (byB 0 xs : Nat)) ∧ w = w' := by
  have HS := Lib.hid hs
  clear hs
  go_enter Tryd.func6, Tryd.ntmps6
  go_wp2_with fail
  go_loopw [3, 8] (fun n o wr => ∃ m k : Nat, k ≤ xs.length ∧ m < 1000000 ∧ n = .int .i64 m ∧ o = .int .i64 k ∧ Hid (byB 0 xs = byB m (xs.drop k)) ∧ w = wr) (fun _ o _ => xs.length - (intOf o).toNat)
  case atStart => exact ⟨0, 0, Nat.zero_le _, by omega, rfl, rfl, rfl, rfl⟩
  case round =>
    obtain ⟨m, k, hk, hm, rfl, rfl, HF, rfl⟩ := hrel
    by_cases hlt : k < xs.length
    · obtain ⟨a, rfl, hc⟩ := str_at HS.out hlt
      have HA := Lib.hid (show byB m (xs.drop k) = if 1000000 ≤ m + min xs[k].size 1000000 then m + min xs[k].size 1000000 else byB (m + min xs[k].size 1000000) (xs.drop (k + 1)) by
        rw [List.drop_eq_getElem_cons hlt]; rfl)
      generalize xs[k] = s at *
      by_cases hz : s.size ≤ 1000000
      · rw [show min s.size 1000000 = s.size by omega] at HA
        by_cases hg : 1000000 ≤ m + s.size
        · have HE := Lib.hid (show byB 0 xs = m + s.size by rw [HF.out, HA.out, if_pos hg])
          go_wp2_with fail
          go_ret
          exact ⟨by rw [HE.out]; exact ret_int (by omega), rfl⟩
        · have HE := Lib.hid (show byB 0 xs = byB (m + s.size) (xs.drop (k + 1)) by rw [HF.out, HA.out, if_neg hg])
          go_wp2_with fail
          go_roundw
          case rel => exact ⟨m + s.size, k + 1, by omega, by omega, by go_num, by go_num, HE.out, trivial⟩
          case measure => simp [intOf]; omega
      · rw [show min s.size 1000000 = 1000000 by omega] at HA
        by_cases hg : 1000000 ≤ m + 1000000
        · have HE := Lib.hid (show byB 0 xs = m + 1000000 by rw [HF.out, HA.out, if_pos hg])
          go_wp2_with fail
          go_ret
          exact ⟨by rw [HE.out]; exact ret_int (by omega), rfl⟩
        · exact absurd (by omega) hg
    · have HE := Lib.hid (show byB 0 xs = m by rw [HF.out, List.drop_eq_nil_of_le (by omega)]; rfl)
      go_wp2_with fail
      go_ret
      exact ⟨by rw [HE.out]; rfl, rfl⟩

end Go.Proofs.YteljkgdecpmocaaDoor
