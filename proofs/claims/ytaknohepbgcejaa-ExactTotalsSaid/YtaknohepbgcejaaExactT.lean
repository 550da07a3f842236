/- Layer 3 (exact): the law of totals: its walk. -/
import Derived.Test.YtaknohepbgcejaaExactW
import Derived.Test.YtaknohepbgcejaaHeld
namespace Go.Proofs.Ytaknohepbgcejaa
open Go.RowKit

/-- Behind the first test: what was reckoned, and whether it fits. -/
def Grown1 (p q n gp gq : Int) (b : Bool) : Prop := (n < 0 ∧ gp = p ∧ gq = fitV (q + n) ∧ b = fitB (q + n)) ∨ (¬ n < 0 ∧ gq = q ∧ gp = fitV (p + n) ∧ b = fitB (p + n))
def Grown2 (p q n gp gq : Int) (b : Bool) : Prop := totV (growO p q n) = .agg #[.int .i64 gp, .int .i64 gq] ∧ isB (growO p q n) = b
def Both2 (p q p' q' gp gq : Int) (b : Bool) : Prop := totV (joinO p q p' q') = .agg #[.int .i64 gp, .int .i64 gq] ∧ isB (joinO p q p' q') = b
theorem grown12 {p q n gp gq : Int} {b : Bool} (hp : In64 p) (hq : In64 q) (h : Grown1 p q n gp gq b) : (b = true → Grown2 p q n gp gq true) ∧ (b = false → Grown2 p q n 0 0 false) := by
  rcases h with ⟨hn, rfl, rfl, rfl⟩ | ⟨hn, rfl, rfl, rfl⟩
  · have g := growO_neg (q := q) hn hp
    cases hf : fitB (q + n) <;> rw [hf] at g <;> simp_all [Grown2]
  · have g := growO_pos (p := p) hn hq
    cases hf : fitB (p + n) <;> rw [hf] at g <;> simp_all [Grown2]
theorem both12 (p q p' q' : Int) : ((!fitB (p + p')) = true ∨ (!fitB (q + q')) = true → Both2 p q p' q' 0 0 (fitB (p + p') && fitB (q + q'))) ∧
    (fitB (p + p') = true → fitB (q + q') = true → Both2 p q p' q' (fitV (p + p')) (fitV (q + q')) true) := by
  have g := join_tot p q p' q'
  cases h1 : fitB (p + p') <;> cases h2 : fitB (q + q') <;> simp_all [Both2]

theorem or_no {a b : Bool} (h : (!a || !b) = false) : a = true ∧ b = true := by cases a <;> cases b <;> simp_all
theorem or_yes {a b : Bool} (h : (!a || !b) = true) : (!a) = true ∨ (!b) = true := by cases a <;> cases b <;> simp_all

set_option maxRecDepth 100000 in
set_option maxHeartbeats 4000000 in
theorem exactTotals_walk (p q p' q' n : Int) (w : World) (h1 : In64 p) (h2 : In64 q) (h3 : In64 p') (h4 : In64 q') (h5 : In64 n) :
    Calls Try.prog 3 #[.agg #[.int .i64 p, .int .i64 q], .agg #[.int .i64 p', .int .i64 q'], .int .i64 n] w fun e w' => e = .returned (.bool true) ∧ Kept w w' := by
  go_enter Try.func3, Try.ntmps3
  go_upto_if 20 with fail
  go_cut [8] (fun s8 wx => ∃ (gp gq : Int) (b : Bool), s8 = .bool b ∧ Bk wx w.heap.size 23 #[.int .i64 p, .int .i64 q] ∧ Bk wx (w.heap.size + 1) 23 #[.int .i64 p', .int .i64 q'] ∧
    Bk wx (w.heap.size + 1 + 1) 23 #[.int .i64 gp, .int .i64 gq] ∧ Kept w wx ∧ Grown1 p q n gp gq b)
  case first =>
    have A0 : Hid (∀ u v, Bk (((w.alloc (.cells #[.int .i64 p, .int .i64 q] 23)).alloc (.cells #[.int .i64 p', .int .i64 q'] 23)).alloc (.cells #[u, v] 23)) w.heap.size 23 #[.int .i64 p, .int .i64 q]) := fun _ _ => ((Bk.new w _ _).alloc _).alloc _
    have B0 : Hid (∀ u v, Bk (((w.alloc (.cells #[.int .i64 p, .int .i64 q] 23)).alloc (.cells #[.int .i64 p', .int .i64 q'] 23)).alloc (.cells #[u, v] 23)) (w.heap.size + 1) 23 #[.int .i64 p', .int .i64 q']) := fun _ _ => by simpa using (Bk.new (w.alloc _) _ _).alloc _
    have C0 : Hid (∀ u v, Bk (((w.alloc (.cells #[.int .i64 p, .int .i64 q] 23)).alloc (.cells #[.int .i64 p', .int .i64 q'] 23)).alloc (.cells #[u, v] 23)) (w.heap.size + 1 + 1) 23 #[u, v]) := fun _ _ => by simpa using Bk.new ((w.alloc _).alloc _) _ _
    by_cases hn : n < 0
    · go_wp2_with fail
      refine (ref_add q n _ h2 h5).mono ?_
      rintro e w1 ⟨rfl, rfl⟩
      go_wp2_with fail
      go_meet
      case rel => exact ⟨_, _, _, rfl, A0.out _ _, B0.out _ _, C0.out _ _, ((Kept.refl.alloc _).alloc _).alloc _, .inl ⟨hn, rfl, rfl, rfl⟩⟩
    · go_wp2_with fail
      refine (ref_add p n _ h1 h5).mono ?_
      rintro e w1 ⟨rfl, rfl⟩
      go_wp2_with fail
      go_meet
      case rel => exact ⟨_, _, _, rfl, A0.out _ _, B0.out _ _, C0.out _ _, ((Kept.refl.alloc _).alloc _).alloc _, .inr ⟨by omega, rfl, rfl, rfl⟩⟩
  case rest =>
    obtain ⟨gp, gq, b, rfl, A0, B0, C0, HK, HG⟩ := hcut
    go_upto_if 38 with fail
    have HG2 := Lib.hid (grown12 h1 h2 HG)
    go_cut [8] (fun s8 wx => ∃ (gp gq : Int) (b : Bool), s8 = .bool b ∧ Bk wx w.heap.size 23 #[.int .i64 p, .int .i64 q] ∧ Bk wx (w.heap.size + 1) 23 #[.int .i64 p', .int .i64 q'] ∧
      Bk wx (w.heap.size + 1 + 1) 23 #[.int .i64 gp, .int .i64 gq] ∧ Kept w wx ∧ Grown2 p q n gp gq b)
    case first =>
      obtain ⟨c0, c1, c2, c3, c4⟩ := C0.two
      have HA := Lib.hid A0
      have HB := Lib.hid B0
      have HC := Lib.hid C0
      have HK' := Lib.hid HK
      clear A0 B0 C0 HG HK
      cases b
      · go_wp2_with fail
        go_meet
        case rel => exact ⟨0, 0, _, rfl, (HA.out.far (by simp; omega) _).far (by simp; omega) _, (HB.out.far (by simp) _).far (by simp) _, by simpa using (HC.out.set 0 _).set 1 _, (HK'.out.set (by simp; omega) _).set (by simp; omega) _, HG2.out.2 trivial⟩
      · go_wp2_with fail
        go_meet
        case rel => exact ⟨gp, gq, _, rfl, HA.out, HB.out, HC.out, HK'.out, HG2.out.1 trivial⟩
    case rest =>
      obtain ⟨gp', gq', b', rfl, A1, B1, C1, HK1, G2⟩ := hcut
      clear A0 B0 C0 HG HG2 HK
      obtain ⟨a0, a1, a2, a3, a4⟩ := A1.two
      obtain ⟨b0, b1, b2, b3, b4⟩ := B1.two
      obtain ⟨c0, c1, c2, c3, c4⟩ := C1.two
      have HA := Lib.hid A1
      have HB := Lib.hid B1
      have HC := Lib.hid C1
      have HK := Lib.hid HK1
      have HG := Lib.hid G2
      clear A1 B1 C1 G2 HK1
      go_upto_region 12 with fail
      refine (exact_grow p q n _ h1 h2 h5).mono ?_
      rintro e w1 ⟨rfl, hk⟩
      rw [show totV (if n < 0 then joinO p q 0 n else joinO p q n 0) = _ from HG.out.1, show isB (if n < 0 then joinO p q 0 n else joinO p q n 0) = _ from HG.out.2]
      have l0 := HC.out.lt
      have l1 := hk.size
      have A0 := HA.out.kept hk
      have B0 := HB.out.kept hk
      have C0 := HC.out.kept hk
      have HK1 := Lib.hid (HK.out.then hk)
      clear a0 a1 a2 a3 a4 b0 b1 b2 b3 b4 c0 c1 c2 c3 c4 hk
      obtain ⟨a0, a1, a2, a3, a4⟩ := A0.two
      obtain ⟨b0, b1, b2, b3, b4⟩ := B0.two
      obtain ⟨c0, c1, c2, c3, c4⟩ := C0.two
      have HA1 := Lib.hid A0
      have HB1 := Lib.hid B0
      have HC1 := Lib.hid C0
      clear A0 B0 C0
      go_upto_region 12 with fail
      refine (ref_add p p' _ h1 h3).mono ?_
      rintro e w2 ⟨rfl, rfl⟩
      go_upto_region 12 with fail
      refine (ref_add q q' _ h2 h4).mono ?_
      rintro e w2 ⟨rfl, rfl⟩
      go_upto_region 12 with fail
      have A2 := (HA1.out.alloc (.cells #[.int .i64 gp', .int .i64 gq'] 23)).alloc (.cells #[.int .i64 (fitV (p + p')), .int .i64 (fitV (q + q'))] 23)
      have B2 := (HB1.out.alloc (.cells #[.int .i64 gp', .int .i64 gq'] 23)).alloc (.cells #[.int .i64 (fitV (p + p')), .int .i64 (fitV (q + q'))] 23)
      have C2 := (HC1.out.alloc (.cells #[.int .i64 gp', .int .i64 gq'] 23)).alloc (.cells #[.int .i64 (fitV (p + p')), .int .i64 (fitV (q + q'))] 23)
      have X2 := (Bk.new w1 23 #[.int .i64 gp', .int .i64 gq']).alloc (.cells #[.int .i64 (fitV (p + p')), .int .i64 (fitV (q + q'))] 23)
      have Y2 := Bk.new (w1.alloc (.cells #[.int .i64 gp', .int .i64 gq'] 23)) 23 #[.int .i64 (fitV (p + p')), .int .i64 (fitV (q + q'))]
      have K2 := (HK1.out.alloc (.cells #[.int .i64 gp', .int .i64 gq'] 23)).alloc (.cells #[.int .i64 (fitV (p + p')), .int .i64 (fitV (q + q'))] 23)
      simp only [World.size_alloc] at Y2
      clear HA1 HB1 HC1 HK1 HA HB HC HK a0 a1 a2 a3 a4 b0 b1 b2 b3 b4 c0 c1 c2 c3 c4
      generalize (w1.alloc (.cells #[.int .i64 gp', .int .i64 gq'] 23)).alloc (.cells #[.int .i64 (fitV (p + p')), .int .i64 (fitV (q + q'))] 23) = w2 at *
      go_cut [12, 70] (fun s12 s70 wx => wx = w2 ∧ s12 = .bool (fitB (p + p')) ∧ s70 = .bool (!fitB (p + p') || !fitB (q + q')))
      case first =>
        cases f1 : fitB (p + p')
        all_goals
          go_wp2
          go_meet
          case rel => exact ⟨rfl, by first | rfl | rw [f1], by first | rfl | simp [f1]⟩
      case rest =>
        obtain ⟨rfl, rfl, rfl⟩ := hcut
        go_upto_if 70 with fail
        go_cut [] (fun wx => ∃ (yp yq : Int), Bk wx w.heap.size 23 #[.int .i64 p, .int .i64 q] ∧ Bk wx (w.heap.size + 1) 23 #[.int .i64 p', .int .i64 q'] ∧
          Bk wx (w.heap.size + 1 + 1) 23 #[.int .i64 gp', .int .i64 gq'] ∧ Bk wx w1.heap.size 23 #[.int .i64 gp', .int .i64 gq'] ∧ Bk wx (w1.heap.size + 1) 23 #[.int .i64 yp, .int .i64 yq] ∧
          Kept w wx ∧ Both2 p q p' q' yp yq (fitB (p + p') && fitB (q + q')))
        case first =>
          have HB12 := Lib.hid (both12 p q p' q')
          obtain ⟨y0, y1, y2, y3, y4⟩ := Y2.two
          have hA := Lib.hid A2
          have hB := Lib.hid B2
          have hC := Lib.hid C2
          have hX := Lib.hid X2
          have hY := Lib.hid Y2
          have hK := Lib.hid K2
          clear A2 B2 C2 X2 Y2 K2
          cases hx : (!fitB (p + p') || !fitB (q + q'))
          · have hx1 : fitB (p + p') = true := (or_no hx).1
            have hx2 : fitB (q + q') = true := (or_no hx).2
            have HH := Lib.hid (HB12.out.2 hx1 hx2)
            have HE := Lib.hid (show (fitB (p + p') && fitB (q + q')) = true by rw [hx1, hx2]; rfl)
            clear hx hx1 hx2
            go_wp2_with fail
            go_meet
            case rel => exact ⟨_, _, hA.out, hB.out, hC.out, hX.out, hY.out, hK.out, by rw [HE.out]; exact HH.out⟩
          · have HH := Lib.hid (HB12.out.1 (or_yes hx))
            clear hx
            go_wp2_with fail
            go_meet
            case rel => exact ⟨0, 0, (hA.out.far (by simp; omega) _).far (by simp; omega) _, (hB.out.far (by simp; omega) _).far (by simp; omega) _, (hC.out.far (by simp; omega) _).far (by simp; omega) _, (hX.out.far (by simp) _).far (by simp) _, by simpa using (hY.out.set 0 _).set 1 _, (hK.out.set (by simp; omega) _).set (by simp; omega) _, HH.out⟩
        case rest =>
          obtain ⟨yp, yq, A3, B3, C3, X3, Y3, K3, HJ⟩ := hcut
          clear A2 B2 C2 X2 Y2 K2
          obtain ⟨a0, a1, a2, a3, a4⟩ := A3.two
          obtain ⟨b0, b1, b2, b3, b4⟩ := B3.two
          have hA := Lib.hid A3
          have hC := Lib.hid C3
          have hX := Lib.hid X3
          have hY := Lib.hid Y3
          have hK := Lib.hid K3
          have hJ := Lib.hid HJ
          clear A3 B3 C3 X3 Y3 K3 HJ
          go_upto_region 15 with fail
          refine (exact_join p q p' q' _ h1 h2 h3 h4).mono ?_
          rintro e w3 ⟨rfl, hk3⟩
          rw [hJ.out.1, hJ.out.2]
          have A4 := (hA.out.kept hk3).alloc (.cells #[.int .i64 yp, .int .i64 yq] 23)
          have C4 := (hC.out.kept hk3).alloc (.cells #[.int .i64 yp, .int .i64 yq] 23)
          have X4 := (hX.out.kept hk3).alloc (.cells #[.int .i64 yp, .int .i64 yq] 23)
          have Y4 := (hY.out.kept hk3).alloc (.cells #[.int .i64 yp, .int .i64 yq] 23)
          have Z4 := Bk.new w3 23 #[.int .i64 yp, .int .i64 yq]
          have K4 := (hK.out.then hk3).alloc (.cells #[.int .i64 yp, .int .i64 yq] 23)
          clear hk3 a0 a1 a2 a3 a4 b0 b1 b2 b3 b4 hA hC hX hY hK hJ
          go_upto_region 15 with fail
          have HA := Lib.hid A4
          have HC := Lib.hid C4
          have HX := Lib.hid X4
          have HY := Lib.hid Y4
          have HZ := Lib.hid Z4
          have HK := Lib.hid K4
          clear A4 C4 X4 Y4 Z4 K4
          generalize w3.alloc (.cells #[.int .i64 yp, .int .i64 yq] 23) = w4 at *
          cases f1 : fitB (p + p') <;> cases hq : decide (q ≤ n) <;> cases hp : decide (0 ≤ p)
          all_goals
            have HF1 := Lib.hid f1
            clear f1
            refine wp_region_held_drew (S := fun w' => Kept w4 w') (by kernel_rfl) Kept.refl.drew (fun h0 => ?_)
            first
              | (refine take_held 0 (some 78) (v := ?_) rfl (by kernel_rfl) (by kernel_rfl) (by kernel_rfl) (fun _ _ _ h => h) rfl (Or.inl ⟨by rfl, ?_⟩) h0 ?_
                 rotate_left
                 focus (intro w' hSw; obtain ⟨l0, l1, _⟩ := (HX.out.kept hSw).two; go_simp; try with_reducible rfl; done))
              | (refine take_held 0 (some 78) (v := undef) rfl (by kernel_rfl) (by kernel_rfl) (by kernel_rfl) (fun _ _ _ h => h) rfl (Or.inr ⟨by rfl, rfl⟩) h0 ?_)
            try simp only [Act.put, List.setIfInBounds_toArray, List.set_cons_zero, List.set_cons_succ]
            first
              | (refine take_held 1 (some 79) (v := ?_) rfl (by kernel_rfl) (by kernel_rfl) (by kernel_rfl) (fun _ _ _ h => h) rfl (Or.inl ⟨by rfl, ?_⟩) h0 ?_
                 rotate_left
                 focus (intro w' hSw; obtain ⟨l0, l1, _⟩ := (HC.out.kept hSw).two; go_simp; try with_reducible rfl; done))
              | (refine take_held 1 (some 79) (v := undef) rfl (by kernel_rfl) (by kernel_rfl) (by kernel_rfl) (fun _ _ _ h => h) rfl (Or.inr ⟨by rfl, rfl⟩) h0 ?_)
            try simp only [Act.put, List.setIfInBounds_toArray, List.set_cons_zero, List.set_cons_succ]
            first
              | (refine take_held 2 (some 80) (v := ?_) rfl (by kernel_rfl) (by kernel_rfl) (by kernel_rfl) (fun _ _ _ h => h) rfl (Or.inl ⟨by rfl, ?_⟩) h0 ?_
                 rotate_left
                 focus (intro w' hSw; go_simp; try with_reducible rfl; done))
              | (refine take_held 2 (some 80) (v := undef) rfl (by kernel_rfl) (by kernel_rfl) (by kernel_rfl) (fun _ _ _ h => h) rfl (Or.inr ⟨by rfl, rfl⟩) h0 ?_)
            try simp only [Act.put, List.setIfInBounds_toArray, List.set_cons_zero, List.set_cons_succ]
            first
              | (refine take_held 3 (some 81) (v := ?_) rfl (by kernel_rfl) (by kernel_rfl) (by kernel_rfl) (fun _ _ _ h => h) rfl (Or.inl ⟨by rfl, ?_⟩) h0 ?_
                 rotate_left
                 focus (intro w' hSw; go_simp; try with_reducible rfl; done))
              | (refine take_held 3 (some 81) (v := undef) rfl (by kernel_rfl) (by kernel_rfl) (by kernel_rfl) (fun _ _ _ h => h) rfl (Or.inr ⟨by rfl, rfl⟩) h0 ?_)
            try simp only [Act.put, List.setIfInBounds_toArray, List.set_cons_zero, List.set_cons_succ]
            first
              | (refine take_held 4 (some 82) (v := ?_) rfl (by kernel_rfl) (by kernel_rfl) (by kernel_rfl) (fun _ _ _ h => h) rfl (Or.inl ⟨by rfl, ?_⟩) h0 ?_
                 rotate_left
                 focus (intro w' hSw; go_simp; try with_reducible rfl; done))
              | (refine take_held 4 (some 82) (v := undef) rfl (by kernel_rfl) (by kernel_rfl) (by kernel_rfl) (fun _ _ _ h => h) rfl (Or.inr ⟨by rfl, rfl⟩) h0 ?_)
            try simp only [Act.put, List.setIfInBounds_toArray, List.set_cons_zero, List.set_cons_succ]
            first
              | (refine take_held 5 (some 83) (v := ?_) rfl (by kernel_rfl) (by kernel_rfl) (by kernel_rfl) (fun _ _ _ h => h) rfl (Or.inl ⟨by rfl, ?_⟩) h0 ?_
                 rotate_left
                 focus (intro w' hSw; go_simp; try with_reducible rfl; done))
              | (refine take_held 5 (some 83) (v := undef) rfl (by kernel_rfl) (by kernel_rfl) (by kernel_rfl) (fun _ _ _ h => h) rfl (Or.inr ⟨by rfl, rfl⟩) h0 ?_)
            try simp only [Act.put, List.setIfInBounds_toArray, List.set_cons_zero, List.set_cons_succ]
            first
              | (refine take_held 6 (some 84) (v := ?_) rfl (by kernel_rfl) (by kernel_rfl) (by kernel_rfl) (fun _ _ _ h => h) rfl (Or.inl ⟨by rfl, ?_⟩) h0 ?_
                 rotate_left
                 focus (intro w' hSw; go_simp; try with_reducible rfl; done))
              | (refine take_held 6 (some 84) (v := undef) rfl (by kernel_rfl) (by kernel_rfl) (by kernel_rfl) (fun _ _ _ h => h) rfl (Or.inr ⟨by rfl, rfl⟩) h0 ?_)
            try simp only [Act.put, List.setIfInBounds_toArray, List.set_cons_zero, List.set_cons_succ]
            first
              | (refine take_held 7 (some 85) (v := ?_) rfl (by kernel_rfl) (by kernel_rfl) (by kernel_rfl) (fun _ _ _ h => h) rfl (Or.inl ⟨by rfl, ?_⟩) h0 ?_
                 rotate_left
                 focus (intro w' hSw; go_simp; try with_reducible rfl; done))
              | (refine take_held 7 (some 85) (v := undef) rfl (by kernel_rfl) (by kernel_rfl) (by kernel_rfl) (fun _ _ _ h => h) rfl (Or.inr ⟨by rfl, rfl⟩) h0 ?_)
            try simp only [Act.put, List.setIfInBounds_toArray, List.set_cons_zero, List.set_cons_succ]
            first
              | (refine take_held 8 (some 86) (v := ?_) rfl (by kernel_rfl) (by kernel_rfl) (by kernel_rfl) (fun _ _ _ h => h) rfl (Or.inl ⟨by rfl, ?_⟩) h0 ?_
                 rotate_left
                 focus (intro w' hSw; go_simp; try with_reducible rfl; done))
              | (refine take_held 8 (some 86) (v := undef) rfl (by kernel_rfl) (by kernel_rfl) (by kernel_rfl) (fun _ _ _ h => h) rfl (Or.inr ⟨by rfl, rfl⟩) h0 ?_)
            try simp only [Act.put, List.setIfInBounds_toArray, List.set_cons_zero, List.set_cons_succ]
            first
              | (refine take_held 9 (some 87) (v := ?_) rfl (by kernel_rfl) (by kernel_rfl) (by kernel_rfl) (fun _ _ _ h => h) rfl (Or.inl ⟨by rfl, ?_⟩) h0 ?_
                 rotate_left
                 focus (intro w' hSw; obtain ⟨l0, l1, _⟩ := (HZ.out.kept hSw).two; go_simp; try with_reducible rfl; done))
              | (refine take_held 9 (some 87) (v := undef) rfl (by kernel_rfl) (by kernel_rfl) (by kernel_rfl) (fun _ _ _ h => h) rfl (Or.inr ⟨by rfl, rfl⟩) h0 ?_)
            try simp only [Act.put, List.setIfInBounds_toArray, List.set_cons_zero, List.set_cons_succ]
            first
              | (refine take_held 10 (some 88) (v := ?_) rfl (by kernel_rfl) (by kernel_rfl) (by kernel_rfl) (fun _ _ _ h => h) rfl (Or.inl ⟨by rfl, ?_⟩) h0 ?_
                 rotate_left
                 focus (intro w' hSw; obtain ⟨l0, l1, _⟩ := (HY.out.kept hSw).two; go_simp; try with_reducible rfl; done))
              | (refine take_held 10 (some 88) (v := undef) rfl (by kernel_rfl) (by kernel_rfl) (by kernel_rfl) (fun _ _ _ h => h) rfl (Or.inr ⟨by rfl, rfl⟩) h0 ?_)
            try simp only [Act.put, List.setIfInBounds_toArray, List.set_cons_zero, List.set_cons_succ]
            first
              | (refine take_held 11 (some 89) (v := ?_) rfl (by kernel_rfl) (by kernel_rfl) (by kernel_rfl) (fun _ _ _ h => h) rfl (Or.inl ⟨by rfl, ?_⟩) h0 ?_
                 rotate_left
                 focus (intro w' hSw; go_simp; try with_reducible rfl; done))
              | (refine take_held 11 (some 89) (v := undef) rfl (by kernel_rfl) (by kernel_rfl) (by kernel_rfl) (fun _ _ _ h => h) rfl (Or.inr ⟨by rfl, rfl⟩) h0 ?_)
            try simp only [Act.put, List.setIfInBounds_toArray, List.set_cons_zero, List.set_cons_succ]
            first
              | (refine take_held 12 (some 90) (v := ?_) rfl (by kernel_rfl) (by kernel_rfl) (by kernel_rfl) (fun _ _ _ h => h) rfl (Or.inl ⟨by rfl, ?_⟩) h0 ?_
                 rotate_left
                 focus (intro w' hSw; go_simp; try with_reducible rfl; done))
              | (refine take_held 12 (some 90) (v := undef) rfl (by kernel_rfl) (by kernel_rfl) (by kernel_rfl) (fun _ _ _ h => h) rfl (Or.inr ⟨by rfl, rfl⟩) h0 ?_)
            try simp only [Act.put, List.setIfInBounds_toArray, List.set_cons_zero, List.set_cons_succ]
            first
              | (refine take_held 13 (some 91) (v := ?_) rfl (by kernel_rfl) (by kernel_rfl) (by kernel_rfl) (fun _ _ _ h => h) rfl (Or.inl ⟨by rfl, ?_⟩) h0 ?_
                 rotate_left
                 focus (intro w' hSw; go_simp; try with_reducible rfl; done))
              | (refine take_held 13 (some 91) (v := undef) rfl (by kernel_rfl) (by kernel_rfl) (by kernel_rfl) (fun _ _ _ h => h) rfl (Or.inr ⟨by rfl, rfl⟩) h0 ?_)
            try simp only [Act.put, List.setIfInBounds_toArray, List.set_cons_zero, List.set_cons_succ]
            first
              | (refine take_held 14 (some 92) (v := ?_) rfl (by kernel_rfl) (by kernel_rfl) (by kernel_rfl) (fun _ _ _ h => h) rfl (Or.inl ⟨by rfl, ?_⟩) h0 ?_
                 rotate_left
                 focus (intro w' hSw; go_simp; try with_reducible rfl; done))
              | (refine take_held 14 (some 92) (v := undef) rfl (by kernel_rfl) (by kernel_rfl) (by kernel_rfl) (fun _ _ _ h => h) rfl (Or.inr ⟨by rfl, rfl⟩) h0 ?_)
            try simp only [Act.put, List.setIfInBounds_toArray, List.set_cons_zero, List.set_cons_succ]
            first
              | (refine take_held 15 (some 93) (v := ?_) rfl (by kernel_rfl) (by kernel_rfl) (by kernel_rfl) (fun _ _ _ h => h) rfl (Or.inl ⟨by rfl, ?_⟩) h0 ?_
                 rotate_left
                 focus (intro w' hSw; go_simp; try with_reducible rfl; done))
              | (refine take_held 15 (some 93) (v := undef) rfl (by kernel_rfl) (by kernel_rfl) (by kernel_rfl) (fun _ _ _ h => h) rfl (Or.inr ⟨by rfl, rfl⟩) h0 ?_)
            try simp only [Act.put, List.setIfInBounds_toArray, List.set_cons_zero, List.set_cons_succ]
            first
              | (refine take_held 16 (some 94) (v := ?_) rfl (by kernel_rfl) (by kernel_rfl) (by kernel_rfl) (fun _ _ _ h => h) rfl (Or.inl ⟨by rfl, ?_⟩) h0 ?_
                 rotate_left
                 focus (intro w' hSw; go_simp; try with_reducible rfl; done))
              | (refine take_held 16 (some 94) (v := undef) rfl (by kernel_rfl) (by kernel_rfl) (by kernel_rfl) (fun _ _ _ h => h) rfl (Or.inr ⟨by rfl, rfl⟩) h0 ?_)
            try simp only [Act.put, List.setIfInBounds_toArray, List.set_cons_zero, List.set_cons_succ]
            first
              | (refine take_held 17 (some 95) (v := ?_) rfl (by kernel_rfl) (by kernel_rfl) (by kernel_rfl) (fun _ _ _ h => h) rfl (Or.inl ⟨by rfl, ?_⟩) h0 ?_
                 rotate_left
                 focus (intro w' hSw; go_simp; try with_reducible rfl; done))
              | (refine take_held 17 (some 95) (v := undef) rfl (by kernel_rfl) (by kernel_rfl) (by kernel_rfl) (fun _ _ _ h => h) rfl (Or.inr ⟨by rfl, rfl⟩) h0 ?_)
            try simp only [Act.put, List.setIfInBounds_toArray, List.set_cons_zero, List.set_cons_succ]
            first
              | (refine take_held 18 (some 96) (v := ?_) rfl (by kernel_rfl) (by kernel_rfl) (by kernel_rfl) (fun _ _ _ h => h) rfl (Or.inl ⟨by rfl, ?_⟩) h0 ?_
                 rotate_left
                 focus (intro w' hSw; go_simp; try with_reducible rfl; done))
              | (refine take_held 18 (some 96) (v := undef) rfl (by kernel_rfl) (by kernel_rfl) (by kernel_rfl) (fun _ _ _ h => h) rfl (Or.inr ⟨by rfl, rfl⟩) h0 ?_)
            try simp only [Act.put, List.setIfInBounds_toArray, List.set_cons_zero, List.set_cons_succ]
            first
              | (refine take_held 19 (some 97) (v := ?_) rfl (by kernel_rfl) (by kernel_rfl) (by kernel_rfl) (fun _ _ _ h => h) rfl (Or.inl ⟨by rfl, ?_⟩) h0 ?_
                 rotate_left
                 focus (intro w' hSw; go_simp; try with_reducible rfl; done))
              | (refine take_held 19 (some 97) (v := undef) rfl (by kernel_rfl) (by kernel_rfl) (by kernel_rfl) (fun _ _ _ h => h) rfl (Or.inr ⟨by rfl, rfl⟩) h0 ?_)
            try simp only [Act.put, List.setIfInBounds_toArray, List.set_cons_zero, List.set_cons_succ]
            first
              | (refine take_held 20 (some 98) (v := ?_) rfl (by kernel_rfl) (by kernel_rfl) (by kernel_rfl) (fun _ _ _ h => h) rfl (Or.inl ⟨by rfl, ?_⟩) h0 ?_
                 rotate_left
                 focus (intro w' hSw; go_simp; try with_reducible rfl; done))
              | (refine take_held 20 (some 98) (v := undef) rfl (by kernel_rfl) (by kernel_rfl) (by kernel_rfl) (fun _ _ _ h => h) rfl (Or.inr ⟨by rfl, rfl⟩) h0 ?_)
            try simp only [Act.put, List.setIfInBounds_toArray, List.set_cons_zero, List.set_cons_succ]
            first
              | (refine take_held 21 (some 99) (v := ?_) rfl (by kernel_rfl) (by kernel_rfl) (by kernel_rfl) (fun _ _ _ h => h) rfl (Or.inl ⟨by rfl, ?_⟩) h0 ?_
                 rotate_left
                 focus (intro w' hSw; go_simp; try with_reducible rfl; done))
              | (refine take_held 21 (some 99) (v := undef) rfl (by kernel_rfl) (by kernel_rfl) (by kernel_rfl) (fun _ _ _ h => h) rfl (Or.inr ⟨by rfl, rfl⟩) h0 ?_)
            try simp only [Act.put, List.setIfInBounds_toArray, List.set_cons_zero, List.set_cons_succ]
            first
              | (refine take_held 22 (some 100) (v := ?_) rfl (by kernel_rfl) (by kernel_rfl) (by kernel_rfl) (fun _ _ _ h => h) rfl (Or.inl ⟨by rfl, ?_⟩) h0 ?_
                 rotate_left
                 focus (intro w' hSw; obtain ⟨l0, l1, _⟩ := (HA.out.kept hSw).two; go_simp; try with_reducible rfl; done))
              | (refine take_held 22 (some 100) (v := undef) rfl (by kernel_rfl) (by kernel_rfl) (by kernel_rfl) (fun _ _ _ h => h) rfl (Or.inr ⟨by rfl, rfl⟩) h0 ?_)
            try simp only [Act.put, List.setIfInBounds_toArray, List.set_cons_zero, List.set_cons_succ]
            first
              | (refine take_held 23 (some 101) (v := ?_) rfl (by kernel_rfl) (by kernel_rfl) (by kernel_rfl) (fun _ _ _ h => h) rfl (Or.inl ⟨by rfl, ?_⟩) h0 ?_
                 rotate_left
                 focus (intro w' hSw; go_simp; try with_reducible rfl; done))
              | (refine take_held 23 (some 101) (v := undef) rfl (by kernel_rfl) (by kernel_rfl) (by kernel_rfl) (fun _ _ _ h => h) rfl (Or.inr ⟨by rfl, rfl⟩) h0 ?_)
            try simp only [Act.put, List.setIfInBounds_toArray, List.set_cons_zero, List.set_cons_succ]
            first
              | (refine take_held 25 (some 103) (v := ?_) rfl (by kernel_rfl) (by kernel_rfl) (by kernel_rfl) (fun _ _ _ h => h) rfl (Or.inl ⟨by rfl, ?_⟩) h0 ?_
                 rotate_left
                 focus (intro w' hSw; go_simp; try with_reducible rfl; done))
              | (refine take_held 25 (some 103) (v := undef) rfl (by kernel_rfl) (by kernel_rfl) (by kernel_rfl) (fun _ _ _ h => h) rfl (Or.inr ⟨by rfl, rfl⟩) h0 ?_)
            try simp only [Act.put, List.setIfInBounds_toArray, List.set_cons_zero, List.set_cons_succ]
            first
              | (refine take_held 26 (some 104) (v := ?_) rfl (by kernel_rfl) (by kernel_rfl) (by kernel_rfl) (fun _ _ _ h => h) rfl (Or.inl ⟨by rfl, ?_⟩) h0 ?_
                 rotate_left
                 focus (intro w' hSw; obtain ⟨l0, l1, _⟩ := (HA.out.kept hSw).two; go_simp; try with_reducible rfl; done))
              | (refine take_held 26 (some 104) (v := undef) rfl (by kernel_rfl) (by kernel_rfl) (by kernel_rfl) (fun _ _ _ h => h) rfl (Or.inr ⟨by rfl, rfl⟩) h0 ?_)
            try simp only [Act.put, List.setIfInBounds_toArray, List.set_cons_zero, List.set_cons_succ]
            first
              | (refine take_held 27 (some 105) (v := ?_) rfl (by kernel_rfl) (by kernel_rfl) (by kernel_rfl) (fun _ _ _ h => h) rfl (Or.inl ⟨by rfl, ?_⟩) h0 ?_
                 rotate_left
                 focus (intro w' hSw; go_simp; try with_reducible rfl; done))
              | (refine take_held 27 (some 105) (v := undef) rfl (by kernel_rfl) (by kernel_rfl) (by kernel_rfl) (fun _ _ _ h => h) rfl (Or.inr ⟨by rfl, rfl⟩) h0 ?_)
            try simp only [Act.put, List.setIfInBounds_toArray, List.set_cons_zero, List.set_cons_succ]
            first
              | (refine take_held 28 (some 106) (v := ?_) rfl (by kernel_rfl) (by kernel_rfl) (by kernel_rfl) (fun _ _ _ h => h) rfl (Or.inl ⟨by rfl, ?_⟩) h0 ?_
                 rotate_left
                 focus (intro w' hSw; go_simp; try with_reducible rfl; done))
              | (refine take_held 28 (some 106) (v := undef) rfl (by kernel_rfl) (by kernel_rfl) (by kernel_rfl) (fun _ _ _ h => h) rfl (Or.inr ⟨by rfl, rfl⟩) h0 ?_)
            try simp only [Act.put, List.setIfInBounds_toArray, List.set_cons_zero, List.set_cons_succ]
            refine wpAnyH_ready (rs := [24]) (by kernel_rfl) (by simp) ?_
            refine AllReadyH.cons (o := _) rfl (fun K hK => ?_) AllReadyH.nil
            go_simp
            go_at_call 14
            refine (exact_holds p q n _).mono ?_
            rintro e vh1x ⟨rfl, hj⟩
            have hkh1x : Kept w4 vh1x := h0.then hj
            clear hj
            go_wp2_with fail
            refine hK.out _ _ hkh1x (fun h1x => ?_)
            clear hK K
            try simp only [Act.put, List.setIfInBounds_toArray, List.set_cons_zero, List.set_cons_succ]
            first
              | (refine take_held 29 (some 107) (v := ?_) rfl (by kernel_rfl) (by kernel_rfl) (by kernel_rfl) (fun _ _ _ h => h) rfl (Or.inl ⟨by rfl, ?_⟩) h1x ?_
                 rotate_left
                 focus (intro w' hSw; go_simp; try with_reducible rfl; done))
              | (refine take_held 29 (some 107) (v := undef) rfl (by kernel_rfl) (by kernel_rfl) (by kernel_rfl) (fun _ _ _ h => h) rfl (Or.inr ⟨by rfl, rfl⟩) h1x ?_)
            try simp only [Act.put, List.setIfInBounds_toArray, List.set_cons_zero, List.set_cons_succ]
            first
              | (refine take_held 30 (some 108) (v := ?_) rfl (by kernel_rfl) (by kernel_rfl) (by kernel_rfl) (fun _ _ _ h => h) rfl (Or.inl ⟨by rfl, ?_⟩) h1x ?_
                 rotate_left
                 focus (intro w' hSw; go_simp; try with_reducible rfl; done))
              | (refine take_held 30 (some 108) (v := undef) rfl (by kernel_rfl) (by kernel_rfl) (by kernel_rfl) (fun _ _ _ h => h) rfl (Or.inr ⟨by rfl, rfl⟩) h1x ?_)
            try simp only [Act.put, List.setIfInBounds_toArray, List.set_cons_zero, List.set_cons_succ]
            first
              | (refine take_held 31 (some 109) (v := ?_) rfl (by kernel_rfl) (by kernel_rfl) (by kernel_rfl) (fun _ _ _ h => h) rfl (Or.inl ⟨by rfl, ?_⟩) h1x ?_
                 rotate_left
                 focus (intro w' hSw; go_simp; try with_reducible rfl; done))
              | (refine take_held 31 (some 109) (v := undef) rfl (by kernel_rfl) (by kernel_rfl) (by kernel_rfl) (fun _ _ _ h => h) rfl (Or.inr ⟨by rfl, rfl⟩) h1x ?_)
            try simp only [Act.put, List.setIfInBounds_toArray, List.set_cons_zero, List.set_cons_succ]
            first
              | (refine take_held 32 (some 110) (v := ?_) rfl (by kernel_rfl) (by kernel_rfl) (by kernel_rfl) (fun _ _ _ h => h) rfl (Or.inl ⟨by rfl, ?_⟩) h1x ?_
                 rotate_left
                 focus (intro w' hSw; obtain ⟨l0, l1, _⟩ := (HA.out.kept hSw).two; go_simp; try with_reducible rfl; done))
              | (refine take_held 32 (some 110) (v := undef) rfl (by kernel_rfl) (by kernel_rfl) (by kernel_rfl) (fun _ _ _ h => h) rfl (Or.inr ⟨by rfl, rfl⟩) h1x ?_)
            try simp only [Act.put, List.setIfInBounds_toArray, List.set_cons_zero, List.set_cons_succ]
            first
              | (refine take_held 33 (some 111) (v := ?_) rfl (by kernel_rfl) (by kernel_rfl) (by kernel_rfl) (fun _ _ _ h => h) rfl (Or.inl ⟨by rfl, ?_⟩) h1x ?_
                 rotate_left
                 focus (intro w' hSw; go_simp; try with_reducible rfl; done))
              | (refine take_held 33 (some 111) (v := undef) rfl (by kernel_rfl) (by kernel_rfl) (by kernel_rfl) (fun _ _ _ h => h) rfl (Or.inr ⟨by rfl, rfl⟩) h1x ?_)
            try simp only [Act.put, List.setIfInBounds_toArray, List.set_cons_zero, List.set_cons_succ]
            first
              | (refine take_held 34 (some 112) (v := ?_) rfl (by kernel_rfl) (by kernel_rfl) (by kernel_rfl) (fun _ _ _ h => h) rfl (Or.inl ⟨by rfl, ?_⟩) h1x ?_
                 rotate_left
                 focus (intro w' hSw; go_simp; try with_reducible rfl; done))
              | (refine take_held 34 (some 112) (v := undef) rfl (by kernel_rfl) (by kernel_rfl) (by kernel_rfl) (fun _ _ _ h => h) rfl (Or.inr ⟨by rfl, rfl⟩) h1x ?_)
            try simp only [Act.put, List.setIfInBounds_toArray, List.set_cons_zero, List.set_cons_succ]
            first
              | (refine take_held 35 (some 113) (v := ?_) rfl (by kernel_rfl) (by kernel_rfl) (by kernel_rfl) (fun _ _ _ h => h) rfl (Or.inl ⟨by rfl, ?_⟩) h1x ?_
                 rotate_left
                 focus (intro w' hSw; go_simp; try with_reducible rfl; done))
              | (refine take_held 35 (some 113) (v := undef) rfl (by kernel_rfl) (by kernel_rfl) (by kernel_rfl) (fun _ _ _ h => h) rfl (Or.inr ⟨by rfl, rfl⟩) h1x ?_)
            try simp only [Act.put, List.setIfInBounds_toArray, List.set_cons_zero, List.set_cons_succ]
            first
              | (refine take_held 36 (some 114) (v := ?_) rfl (by kernel_rfl) (by kernel_rfl) (by kernel_rfl) (fun _ _ _ h => h) rfl (Or.inl ⟨by rfl, ?_⟩) h1x ?_
                 rotate_left
                 focus (intro w' hSw; go_simp; try with_reducible rfl; done))
              | (refine take_held 36 (some 114) (v := undef) rfl (by kernel_rfl) (by kernel_rfl) (by kernel_rfl) (fun _ _ _ h => h) rfl (Or.inr ⟨by rfl, rfl⟩) h1x ?_)
            try simp only [Act.put, List.setIfInBounds_toArray, List.set_cons_zero, List.set_cons_succ]
            first
              | (refine take_held 37 (some 115) (v := ?_) rfl (by kernel_rfl) (by kernel_rfl) (by kernel_rfl) (fun _ _ _ h => h) rfl (Or.inl ⟨by rfl, ?_⟩) h1x ?_
                 rotate_left
                 focus (intro w' hSw; go_simp; try with_reducible rfl; done))
              | (refine take_held 37 (some 115) (v := undef) rfl (by kernel_rfl) (by kernel_rfl) (by kernel_rfl) (fun _ _ _ h => h) rfl (Or.inr ⟨by rfl, rfl⟩) h1x ?_)
            try simp only [Act.put, List.setIfInBounds_toArray, List.set_cons_zero, List.set_cons_succ]
            first
              | (refine take_held 38 (some 116) (v := ?_) rfl (by kernel_rfl) (by kernel_rfl) (by kernel_rfl) (fun _ _ _ h => h) rfl (Or.inl ⟨by rfl, ?_⟩) h1x ?_
                 rotate_left
                 focus (intro w' hSw; obtain ⟨l0, l1, _⟩ := (HA.out.kept hSw).two; go_simp; try with_reducible rfl; done))
              | (refine take_held 38 (some 116) (v := undef) rfl (by kernel_rfl) (by kernel_rfl) (by kernel_rfl) (fun _ _ _ h => h) rfl (Or.inr ⟨by rfl, rfl⟩) h1x ?_)
            try simp only [Act.put, List.setIfInBounds_toArray, List.set_cons_zero, List.set_cons_succ]
            first
              | (refine take_held 40 (some 118) (v := ?_) rfl (by kernel_rfl) (by kernel_rfl) (by kernel_rfl) (fun _ _ _ h => h) rfl (Or.inl ⟨by rfl, ?_⟩) h1x ?_
                 rotate_left
                 focus (intro w' hSw; go_simp; try with_reducible rfl; done))
              | (refine take_held 40 (some 118) (v := undef) rfl (by kernel_rfl) (by kernel_rfl) (by kernel_rfl) (fun _ _ _ h => h) rfl (Or.inr ⟨by rfl, rfl⟩) h1x ?_)
            try simp only [Act.put, List.setIfInBounds_toArray, List.set_cons_zero, List.set_cons_succ]
            first
              | (refine take_held 41 (some 119) (v := ?_) rfl (by kernel_rfl) (by kernel_rfl) (by kernel_rfl) (fun _ _ _ h => h) rfl (Or.inl ⟨by rfl, ?_⟩) h1x ?_
                 rotate_left
                 focus (intro w' hSw; obtain ⟨l0, l1, _⟩ := (HA.out.kept hSw).two; go_simp; try with_reducible rfl; done))
              | (refine take_held 41 (some 119) (v := undef) rfl (by kernel_rfl) (by kernel_rfl) (by kernel_rfl) (fun _ _ _ h => h) rfl (Or.inr ⟨by rfl, rfl⟩) h1x ?_)
            try simp only [Act.put, List.setIfInBounds_toArray, List.set_cons_zero, List.set_cons_succ]
            first
              | (refine take_held 42 (some 120) (v := ?_) rfl (by kernel_rfl) (by kernel_rfl) (by kernel_rfl) (fun _ _ _ h => h) rfl (Or.inl ⟨by rfl, ?_⟩) h1x ?_
                 rotate_left
                 focus (intro w' hSw; go_simp; try with_reducible rfl; done))
              | (refine take_held 42 (some 120) (v := undef) rfl (by kernel_rfl) (by kernel_rfl) (by kernel_rfl) (fun _ _ _ h => h) rfl (Or.inr ⟨by rfl, rfl⟩) h1x ?_)
            try simp only [Act.put, List.setIfInBounds_toArray, List.set_cons_zero, List.set_cons_succ]
            refine wpAnyH_ready (rs := [39]) (by kernel_rfl) (by simp) ?_
            refine AllReadyH.cons (o := _) rfl (fun K hK => ?_) AllReadyH.nil
            go_simp
            go_at_call 15
            refine (exact_may p q _).mono ?_
            rintro e vh2x ⟨rfl, hj⟩
            have hkh2x : Kept w4 vh2x := h1x.then hj
            clear hj
            go_wp2_with fail
            refine hK.out _ _ hkh2x (fun h2x => ?_)
            clear hK K
            try simp only [Act.put, List.setIfInBounds_toArray, List.set_cons_zero, List.set_cons_succ]
            first
              | (refine take_held 43 (some 121) (v := ?_) rfl (by kernel_rfl) (by kernel_rfl) (by kernel_rfl) (fun _ _ _ h => h) rfl (Or.inl ⟨by rfl, ?_⟩) h2x ?_
                 rotate_left
                 focus (intro w' hSw; go_simp; try with_reducible rfl; done))
              | (refine take_held 43 (some 121) (v := undef) rfl (by kernel_rfl) (by kernel_rfl) (by kernel_rfl) (fun _ _ _ h => h) rfl (Or.inr ⟨by rfl, rfl⟩) h2x ?_)
            try simp only [Act.put, List.setIfInBounds_toArray, List.set_cons_zero, List.set_cons_succ]
            first
              | (refine take_held 44 (some 122) (v := ?_) rfl (by kernel_rfl) (by kernel_rfl) (by kernel_rfl) (fun _ _ _ h => h) rfl (Or.inl ⟨by rfl, ?_⟩) h2x ?_
                 rotate_left
                 focus (intro w' hSw; go_simp; try with_reducible rfl; done))
              | (refine take_held 44 (some 122) (v := undef) rfl (by kernel_rfl) (by kernel_rfl) (by kernel_rfl) (fun _ _ _ h => h) rfl (Or.inr ⟨by rfl, rfl⟩) h2x ?_)
            try simp only [Act.put, List.setIfInBounds_toArray, List.set_cons_zero, List.set_cons_succ]
            first
              | (refine take_held 45 (some 123) (v := ?_) rfl (by kernel_rfl) (by kernel_rfl) (by kernel_rfl) (fun _ _ _ h => h) rfl (Or.inl ⟨by rfl, ?_⟩) h2x ?_
                 rotate_left
                 focus (intro w' hSw; obtain ⟨l0, l1, _⟩ := (HA.out.kept hSw).two; go_simp; try with_reducible rfl; done))
              | (refine take_held 45 (some 123) (v := undef) rfl (by kernel_rfl) (by kernel_rfl) (by kernel_rfl) (fun _ _ _ h => h) rfl (Or.inr ⟨by rfl, rfl⟩) h2x ?_)
            try simp only [Act.put, List.setIfInBounds_toArray, List.set_cons_zero, List.set_cons_succ]
            first
              | (refine take_held 46 (some 124) (v := ?_) rfl (by kernel_rfl) (by kernel_rfl) (by kernel_rfl) (fun _ _ _ h => h) rfl (Or.inl ⟨by rfl, ?_⟩) h2x ?_
                 rotate_left
                 focus (intro w' hSw; go_simp; try with_reducible rfl; done))
              | (refine take_held 46 (some 124) (v := undef) rfl (by kernel_rfl) (by kernel_rfl) (by kernel_rfl) (fun _ _ _ h => h) rfl (Or.inr ⟨by rfl, rfl⟩) h2x ?_)
            try simp only [Act.put, List.setIfInBounds_toArray, List.set_cons_zero, List.set_cons_succ]
            first
              | (refine take_held 47 (some 125) (v := ?_) rfl (by kernel_rfl) (by kernel_rfl) (by kernel_rfl) (fun _ _ _ h => h) rfl (Or.inl ⟨by rfl, ?_⟩) h2x ?_
                 rotate_left
                 focus (intro w' hSw; go_simp; try with_reducible rfl; done))
              | (refine take_held 47 (some 125) (v := undef) rfl (by kernel_rfl) (by kernel_rfl) (by kernel_rfl) (fun _ _ _ h => h) rfl (Or.inr ⟨by rfl, rfl⟩) h2x ?_)
            try simp only [Act.put, List.setIfInBounds_toArray, List.set_cons_zero, List.set_cons_succ]
            first
              | (refine take_held 48 (some 126) (v := ?_) rfl (by kernel_rfl) (by kernel_rfl) (by kernel_rfl) (fun _ _ _ h => h) rfl (Or.inl ⟨by rfl, ?_⟩) h2x ?_
                 rotate_left
                 focus (intro w' hSw; go_simp; try with_reducible rfl; done))
              | (refine take_held 48 (some 126) (v := undef) rfl (by kernel_rfl) (by kernel_rfl) (by kernel_rfl) (fun _ _ _ h => h) rfl (Or.inr ⟨by rfl, rfl⟩) h2x ?_)
            try simp only [Act.put, List.setIfInBounds_toArray, List.set_cons_zero, List.set_cons_succ]
            first
              | (refine take_held 49 (some 127) (v := ?_) rfl (by kernel_rfl) (by kernel_rfl) (by kernel_rfl) (fun _ _ _ h => h) rfl (Or.inl ⟨by rfl, ?_⟩) h2x ?_
                 rotate_left
                 focus (intro w' hSw; go_simp; try with_reducible rfl; done))
              | (refine take_held 49 (some 127) (v := undef) rfl (by kernel_rfl) (by kernel_rfl) (by kernel_rfl) (fun _ _ _ h => h) rfl (Or.inr ⟨by rfl, rfl⟩) h2x ?_)
            try simp only [Act.put, List.setIfInBounds_toArray, List.set_cons_zero, List.set_cons_succ]
            first
              | (refine take_held 50 (some 128) (v := ?_) rfl (by kernel_rfl) (by kernel_rfl) (by kernel_rfl) (fun _ _ _ h => h) rfl (Or.inl ⟨by rfl, ?_⟩) h2x ?_
                 rotate_left
                 focus (intro w' hSw; go_simp; try with_reducible rfl; done))
              | (refine take_held 50 (some 128) (v := undef) rfl (by kernel_rfl) (by kernel_rfl) (by kernel_rfl) (fun _ _ _ h => h) rfl (Or.inr ⟨by rfl, rfl⟩) h2x ?_)
            try simp only [Act.put, List.setIfInBounds_toArray, List.set_cons_zero, List.set_cons_succ]
            refine wpAnyH_ready (rs := [51]) (by kernel_rfl) (by simp) ?_
            refine AllReadyH.cons (o := _) rfl (fun K hK => ?_) AllReadyH.nil
            go_simp
            go_at_call 16
            refine (awake3 _).mono ?_
            rintro e vh3x ⟨rfl, hj⟩
            have hkh3x : Kept w4 vh3x := h2x.then hj
            clear hj
            go_wp2_with fail
            refine hK.out _ _ hkh3x (fun h3x => ?_)
            clear hK K
            try simp only [Act.put, List.setIfInBounds_toArray, List.set_cons_zero, List.set_cons_succ]
            first
              | (refine take_held 52 (some 130) (v := ?_) rfl (by kernel_rfl) (by kernel_rfl) (by kernel_rfl) (fun _ _ _ h => h) rfl (Or.inl ⟨by rfl, ?_⟩) h3x ?_
                 rotate_left
                 focus (intro w' hSw; go_simp; try with_reducible rfl; done))
              | (refine take_held 52 (some 130) (v := undef) rfl (by kernel_rfl) (by kernel_rfl) (by kernel_rfl) (fun _ _ _ h => h) rfl (Or.inr ⟨by rfl, rfl⟩) h3x ?_)
            try simp only [Act.put, List.setIfInBounds_toArray, List.set_cons_zero, List.set_cons_succ]
            first
              | (refine take_held 53 (some 6) (v := ?_) rfl (by kernel_rfl) (by kernel_rfl) (by kernel_rfl) (fun _ _ _ h => h) rfl (Or.inl ⟨by rfl, ?_⟩) h3x ?_
                 rotate_left
                 focus (intro w' hSw; go_simp; try with_reducible rfl; done))
              | (refine take_held 53 (some 6) (v := undef) rfl (by kernel_rfl) (by kernel_rfl) (by kernel_rfl) (fun _ _ _ h => h) rfl (Or.inr ⟨by rfl, rfl⟩) h3x ?_)
            try simp only [Act.put, List.setIfInBounds_toArray, List.set_cons_zero, List.set_cons_succ]
            refine wpAnyH_done (by kernel_rfl) ?_ _
            go_wp2_with fail
            go_ret
            exact ⟨rfl, HK.out.then h3x⟩

end Go.Proofs.Ytaknohepbgcejaa
