/- Layer 19 (fact): all facts' aggregates together. -/
import Derived.Test.YtfamombmnehpmaaFctD
namespace Go.Proofs.Ytfamombmnehpmaa
open Go.RowKit

def agsF (l : List Fx) : List Ag := l.map (·.f.ag)
theorem agsF_snoc {l : List Fx} {k : Nat} (h : k < l.length) : agsF (l.take (k + 1)) = agsF (l.take k) ++ [l[k].f.ag] := by
  unfold agsF
  rw [List.take_succ_eq_append_getElem h, List.map_append]; rfl
theorem agsF_len (l : List Fx) : (agsF l).length = l.length := by simp [agsF]

set_option maxRecDepth 100000 in
set_option maxHeartbeats 4000000 in
theorem fact_all (A : Option Addr) (c : Nat) (l : List Fx) (w : World) (ha : Fxs w A l) (hl : l.length ≤ 1000) (hi : ∀ x ∈ l, x.f.ag.In) :
    Calls Try.prog 21 #[.slice A l.length c] w fun e w' => e = .returned (joinV (allA (agsF l))) ∧ Kept w w' := by
  have HA := Lib.hid ha
  have HI : Hid (∀ x ∈ agsF l, x.In) := by
    unfold Hid agsF
    intro x hx
    obtain ⟨y, hy, rfl⟩ := List.mem_map.1 hx
    exact hi y hy
  clear ha hi
  go_enter Try.func21, Try.ntmps21
  have B0 := Lib.hid (Bk.new w 31 Ag.zero.cs)
  have K0 := Lib.hid ((Kept.refl (w := w)).alloc (.cells Ag.zero.cs 31))
  go_wp2_with fail
  go_loopw [4, 9] (fun V i wr => ∃ k : Nat, k ≤ l.length ∧ i = .int .i64 k ∧ Hid (Kept w wr) ∧ Hid (Bk wr w.heap.size 31 Ag.zero.cs) ∧
    Hid (wr.ownsRow (w.heap.size + 1) 31 10 V (agsF (l.take k)).length (acs (agsF (l.take k))))) (fun _ i _ => l.length - (intOf i).toNat)
  case atStart => exact ⟨0, Nat.zero_le _, rfl, K0, B0, Lib.hid owns_none⟩
  case round =>
    obtain ⟨k, hk, rfl, HK, HB, HO⟩ := hrel
    by_cases hlt : k < l.length
    · have HS := Lib.hid (agsF_snoc hlt)
      obtain ⟨a, p, rfl, hp, hpb, a0, a1, a2, a3, a4, a5, a6, a7, a8, a9, a10⟩ := (HA.out.kept HK.out).get hlt
      have i1 : (k : Int) < (l.length : Int) := by omega
      have HLk : Hid ((agsF (l.take k)).length = k) := by unfold Hid; rw [agsF_len, List.length_take]; omega
      generalize l[k] = x at *
      have P1 := Lib.hid (Bk.new wr 44 x.cs)
      obtain ⟨x0, x1, x2, x3, x4, x5, x6, x7, x8, x9, x10⟩ := P1.out.eleven
      have K1 := Lib.hid (HK.out.alloc (.cells x.cs 44))
      have C1 := Lib.hid (HB.out.alloc (.cells x.cs 44))
      have ho := owns_kept HO.out ((Kept.refl (w := wr)).alloc (.cells x.cs 44))
      have hq := HB.out.lt
      clear HO HB HK
      go_wp2_with (at_builtin; refine appAg rfl _ _ 24 rfl (w.heap.size + 1) Try.underlying24 _ _ rfl ho x.f.ag rfl ?b0 ?b1 ?b2 ?_)
      case b0 => simp only [World.size_alloc]
      case b1 => rw [HLk.out]; omega
      case b2 => rw [World.size_alloc]; omega
      intro V' w2 hown hgr hv
      have O2 : Hid (w2.ownsRow (w.heap.size + 1) 31 10 V' (agsF (l.take (k + 1))).length (acs (agsF (l.take (k + 1))))) := by unfold Hid; rw [HS.out, List.length_append]; exact hown
      have K2 := Lib.hid (K1.out.grown ho (by omega) hgr)
      have C2 := Lib.hid (C1.out.grown ho (by omega) hgr)
      clear hown hgr hv ho a0 a1 a2 a3 a4 a5 a6 a7 a8 a9 a10 x0 x1 x2 x3 x4 x5 x6 x7 x8 x9 x10 hp hpb hq K1 C1 P1
      go_wp2_with fail
      go_roundw
      case rel => exact ⟨k + 1, by omega, by go_num, K2, C2, O2⟩
      case measure => simp [intOf]; omega
    · obtain rfl : k = l.length := by omega
      have ho := HO.out
      rw [List.take_length] at ho
      obtain ⟨AB, cb, rfl⟩ := owns_form ho
      have HAll := Lib.hid (agg_all AB cb (agsF l) wr (Aggs.own ho) (by rw [agsF_len]; omega) HI.out)
      rw [agsF_len] at HAll
      clear ho HO
      have h0 : ((l.length : Int) < (l.length : Int)) = False := by simp
      go_wp2_with (rw [agsF_len])
      refine HAll.out.mono ?_
      rintro e w1 ⟨rfl, hk1⟩
      have K1 := Lib.hid (HK.out.then hk1)
      have C1 := Lib.hid (HB.out.kept hk1)
      clear hk1
      obtain ⟨r, hr⟩ : ∃ r, allA (agsF l) = r := ⟨_, rfl⟩
      rw [hr]
      rcases r with _ | y
      · simp only [joinV]
        go_wp2_with (refine wl_store_ag Ag.zero rfl _ _ rfl rfl rfl C1.out ?_)
        refine bodyPost_ret (v := .tuple #[Ag.zero.v, .bool false]) (by simp [results, Try.results21, go_sem, (C1.out.row Ag.zero.cs).ten]) rfl ⟨by rw [hr]; rfl, K1.out.row (Nat.le_refl _) _⟩
      · simp only [joinV]
        go_wp2_with (refine wl_store_ag y rfl _ _ rfl rfl rfl C1.out ?_)
        refine bodyPost_ret (v := .tuple #[y.v, .bool true]) (by simp [results, Try.results21, go_sem, (C1.out.row y.cs).ten]) rfl ⟨by rw [hr]; rfl, K1.out.row (Nat.le_refl _) _⟩

end Go.Proofs.Ytfamombmnehpmaa
