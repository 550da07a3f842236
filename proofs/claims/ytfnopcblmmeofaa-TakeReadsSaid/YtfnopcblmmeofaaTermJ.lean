/- Layer 5 (term): two rows that hold the same texts; the bytes behind a row's k-th text. -/
import Derived.Test.YtfnopcblmmeofaaTermI
namespace Go.Proofs.Ytfnopcblmmeofaa
open Go.RowKit Num

/-- Two slices that hold the same texts are the same. -/
theorem plain_texts (A B : Option Addr) (c d n : Nat) (xs : List ByteArray) (w : World) (hn : xs.length = n) (ha : Holds w A n (svs xs)) (hb : Holds w B n (svs xs)) (hl : n ≤ 100000) :
    Calls Try.prog 17 #[.slice A n c, .slice B n d] w fun e w' => e = .returned (.bool true) ∧ Kept w w' := by
  subst hn
  have HA := Lib.hid ha
  have HB := Lib.hid hb
  clear ha hb
  go_enter Try.func17, Try.ntmps17
  go_wp2_with fail
  go_loopw [13] (fun i wr => ∃ k : Nat, k ≤ xs.length ∧ i = .int .i64 k ∧ Kept w wr) (fun i _ => xs.length - (intOf i).toNat)
  case atStart => exact ⟨0, Nat.zero_le _, rfl, Kept.refl⟩
  case round =>
    obtain ⟨k, hk, rfl, hkw⟩ := hrel
    by_cases hlt : k < xs.length
    · obtain ⟨a, rfl, hc⟩ := str_at (HA.out.kept hkw) hlt
      obtain ⟨b, rfl, hd⟩ := str_at (HB.out.kept hkw) hlt
      generalize xs[k] = x at *
      have hi : (k : Int) < (xs.length : Int) := by omega
      go_wp2_with fail
      go_quiet (fail)
      go_wp2_with fail
      go_roundw
      case rel => exact ⟨k + 1, by omega, by go_num, hkw.drewN _⟩
      case measure => simp [intOf]; omega
    · go_wp2_with fail
      go_ret
      exact ⟨rfl, hkw⟩

/-- The bytes of a row's last j texts. -/
def tailR (l : List ByteArray) : Nat → List UInt8
  | 0 => []
  | j + 1 => piece (ahead l (l.length - (j + 1))) (l.getD (l.length - (j + 1)) ByteArray.empty) ++ tailR l j
theorem tailR_at {l : List ByteArray} {k : Nat} (h : k < l.length) : tailR l (l.length - k) = pt (cmS (ahead l k) l[k]) ++ (pS (restS (ahead l k) l[k]) ++ tailR l (l.length - (k + 1))) := by
  obtain ⟨j, hj⟩ : ∃ j, l.length - k = j + 1 := ⟨l.length - k - 1, by omega⟩
  rw [hj, tailR, show l.length - (j + 1) = k by omega, show l.length - (k + 1) = j by omega]
  simp [piece, List.getD, h]
theorem row_tail (l : List ByteArray) : ∀ k, k ≤ l.length → putTo l k ++ tailR l (l.length - k) = pt l.length ++ tailR l l.length
  | 0, _ => by rw [putTo]; rfl
  | k + 1, h => by
    rw [← row_tail l k (by omega), putTo_succ (by omega), tailR_at (show k < l.length by omega)]
    simp
theorem rowBytes_tail (l : List ByteArray) : rowBytes l = pt l.length ++ tailR l l.length := by
  rw [← row_tail l l.length (Nat.le_refl _), Nat.sub_self]
  simp [rowBytes, tailR]

end Go.Proofs.Ytfnopcblmmeofaa
