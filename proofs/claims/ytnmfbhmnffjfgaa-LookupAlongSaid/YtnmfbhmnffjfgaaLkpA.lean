/- Layer 25 (arena): Load of one node, of a shape of one dimension. · Layer 27 (lookup): an arena that no call made tells nothing. -/
import Derived.Test.YtnmfbhmnffjfgaaNodG
namespace Go.Proofs.Ytnmfbhmnffjfgaa
open Go.RowKit

/-- What Load answers of one node that may be. -/
def LoadQ (sl : List Zr) (m : Int) (n : No) (w : World) (e : Ending) (w' : World) : Prop :=
  ∃ w1 SA Sc M NV n', e = .returned (.tuple #[.pointer (some ⟨w1.heap.size, 0, none⟩), .int .i64 0]) ∧ Kept w w1 ∧ M.length = sl.length ∧ zxs M = zxs sl ∧ ArnSt w1 w' SA Sc M m 131072 NV [n'] ∧ n'.d = n.d ∧ n'.al = n.al ∧ lls n'.ls = lls n.ls

set_option maxRecDepth 100000 in
set_option maxHeartbeats 4000000 in
theorem load_one (SA : Option Addr) (Sc : Nat) (sl : List Zr) (m : Int) (gN : Nat) (n : No) (w : World) (hs : Zrs w SA sl) (hsl : sl.length ≤ 1000000) (hm : mayShB (zxs sl) m = true) (hb : Bk w gN 44 n.cs) (hn : Lis w n.A n.ls) (hnl : n.ls.length ≤ 1000)
    (hnx : ∀ x ∈ n.ls, x.l.length ≤ 1000000) (hd : n.d = (sl.length : Int) - 1) (hc : chkN (zxs sl) m n.d (lls n.ls) n.al = 0) :
    Calls Try.prog 28 #[.agg #[.slice SA sl.length Sc, .int .i64 m], .slice (some ⟨gN, 0, none⟩) 1 1] w (LoadQ sl m n w) := by
  have K1 := Lib.hid ((Kept.refl (w := w)).alloc (.cells #[.slice SA sl.length Sc, .int .i64 m] 24))
  have B1 := Lib.hid (Bk.new w 24 #[.slice SA sl.length Sc, .int .i64 m])
  have HS := Lib.hid hs
  have HB := Lib.hid hb
  have HN := Lib.hid hn
  have HX := Lib.hid hnx
  have HD := Lib.hid hd
  have HC := Lib.hid hc
  have HM := Lib.hid hm
  clear hs hb hn hnx hd hc hm
  go_enter Try.func28, Try.ntmps28
  go_wp2_with (refine wl_load_sh rfl _ rfl rfl B1.out ?_)
  refine (arena_new SA Sc sl m 131072 _ (HS.out.kept K1.out) (by omega)).mono ?_
  rintro e w2 ⟨h, hk2⟩
  have K2 := Lib.hid (K1.out.then hk2)
  rcases h with ⟨h, _⟩ | ⟨_, w1, A, c, M, rfl, hN⟩
  · rw [HM.out] at h
    exact absurd h (by decide)
  have k1 := hN.k1
  have HK1 := Lib.hid (K1.out.then k1)
  have HML := Lib.hid hN.len
  have HMS := Lib.hid hN.same
  have HA := Lib.hid hN.st
  clear hk2 hN k1 K1 B1 HS
  go_wp2_with fail
  go_loopw [22] (fun i wr => ∃ (NV : Value) (ns : List No), Hid (ArnSt w1 wr A c M m 131072 NV ns) ∧ Hid (Kept w wr) ∧ ((i = .int .i64 0 ∧ ns = []) ∨ (i = .int .i64 1 ∧ ∃ n', ns = [n'] ∧ Hid (n'.d = n.d ∧ n'.al = n.al ∧ lls n'.ls = lls n.ls)))) (fun i _ => 1 - (intOf i).toNat)
  case atStart => exact ⟨_, [], HA, K2, .inl ⟨rfl, rfl⟩⟩
  case round =>
    obtain ⟨NV, ns, HA2, HK, h⟩ := hrel
    clear HA K2
    rename World => wr
    rcases h with ⟨rfl, rfl⟩ | ⟨rfl, n', rfl, HQ⟩
    · have HB2 := Lib.hid (HB.out.kept HK.out)
      obtain ⟨n0, n1, n2, n3, n4, n5, n6, n7, n8, n9, n10, n11, n12, n13⟩ := HB2.out.fourteen
      have BN := Lib.hid (Bk.new wr 44 n.cs)
      have KN := Lib.hid ((Kept.refl (w := wr)).alloc (.cells n.cs 44))
      go_upto_region 7 with fail
      obtain ⟨w3, hw3⟩ : ∃ w3, w3 = wr.alloc (.cells n.cs 44) := ⟨_, rfl⟩
      rw [← hw3] at BN KN
      simp only [← hw3]
      clear hw3 n0 n1 n2 n3 n4 n5 n6 n7 n8 n9 n10 n11 n12 n13
      go_wp2_with (refine wl_load_no rfl _ rfl rfl BN.out ?_)
      refine (arn_add_last w1 A c M m 131072 NV [] n _ (HA2.out.kept KN.out) (by rw [HML.out]; exact hsl) (HN.out.kept (HK.out.then KN.out)) hnl HX.out (by rw [HML.out]; exact HD.out) (by decide)).mono ?_
      rintro e w4 hq
      rcases hq with ⟨h1, _⟩ | ⟨_, h1, _⟩ | ⟨_, _, n', NV', rfl, q1, q2, q3, hst⟩
      · rw [HMS.out] at h1
        exact absurd HC.out h1
      · exact absurd h1 (by decide)
      have HA3 : Hid (ArnSt w1 w4 A c M m 131072 NV' [n']) := Lib.hid hst
      have HK3 := Lib.hid (HK1.out.then hst.k1)
      have HQ := Lib.hid (And.intro q1 (And.intro q2 q3))
      clear hst q1 q2 q3
      go_wp2_with fail
      go_roundw
      case rel => exact ⟨NV', [n'], HA3, HK3, .inr ⟨by go_num, n', rfl, HQ⟩⟩
      case measure => simp [intOf]
    · go_wp2_with fail
      go_ret2
      exact ⟨w1, A, c, M, NV, n', rfl, HK1.out, HML.out, HMS.out, HA2.out, HQ.out⟩

end Go.Proofs.Ytnmfbhmnffjfgaa

namespace Go.Proofs.Ytnmfbhmnffjfgaa
open Go.RowKit

end Go.Proofs.Ytnmfbhmnffjfgaa
