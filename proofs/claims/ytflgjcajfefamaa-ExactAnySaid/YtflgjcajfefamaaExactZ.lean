/- Layer 3 (exact): the law of any choice of values: its walk. -/
import Derived.Test.YtflgjcajfefamaaExactY
namespace Go.Proofs.Ytflgjcajfefamaa
open Go.RowKit

theorem bool_at {w : World} {A : Option Addr} {ts : List Bool} {k : Nat} (hs : Holds w A ts.length (ts.map .bool)) (hk : k < ts.length) :
    ∃ a, A = some a ∧ w.cell? (a.add k) = some (.bool ts[k]) := by
  obtain ⟨a, v, e, _, hv, hc⟩ := hs.get hk
  refine ⟨a, e, hc.trans ?_⟩
  rw [← hv]; simp [hk]

set_option maxRecDepth 100000 in
set_option maxHeartbeats 1000000 in
theorem exactAny_walk (A B : Option Addr) (n c m d : Nat) (xs : List Int) (ts : List Bool) (w : World) (hn : xs.length = n) (hm : ts.length = m) (hx : ∀ n ∈ xs, In64 n) (hs : Holds w A n (xs.map (.int .i64))) (ht : Holds w B m (ts.map .bool)) (hl : n ≤ 9223372036854775807) (hl' : m ≤ 9223372036854775807) :
    Calls Try.prog 11 #[.slice A n c, .slice B m d] w fun e w' => e = .returned (.bool true) ∧ Kept w w' := by
  subst hn hm
  by_cases hg : 1000 < xs.length
  · go_enter Try.func11, Try.ntmps11
    go_wp2_with fail
    refine (awake3 _).mono ?_
    rintro e w1 ⟨rfl, hk⟩
    go_wp2_with fail
    go_ret
    exact ⟨rfl, hk⟩
  have hl2 : xs.length ≤ 1000 := by omega
  have HX := Lib.hid hx
  have HS := Lib.hid hs
  have HT := Lib.hid ht
  clear hx hs ht
  go_enter Try.func11, Try.ntmps11
  go_wp2_with fail
  refine (exact_of A c xs _ HX.out HS.out hl).mono ?_
  rintro e w1 ⟨rfl, hk1⟩
  rcases hof : ofV xs with _ | ⟨p, q⟩
  · rw [show ofW none = .tuple #[.agg #[.int .i64 0, .int .i64 0], .bool false] from rfl]
    go_wp2_with fail
    refine (awake3 _).mono ?_
    rintro e w2 ⟨rfl, hk2⟩
    go_wp2_with fail
    go_ret
    exact ⟨rfl, (hk1.alloc _).then hk2⟩
  · rw [show ofW (some (p, q)) = .tuple #[.agg #[.int .i64 p, .int .i64 q], .bool true] from rfl]
    have HP := Lib.hid (pick_sums (ts := ts) hof)
    clear hof
    go_wp2_with fail
    have hz1 := hk1.size
    go_loopw [7, 29] (fun v i wr => ∃ k : Nat, k ≤ xs.length ∧ i = .int .i64 k ∧ wr.ownsRow (w1.heap.size + 1) 2 1 v (pickK xs ts k).length ((pickK xs ts k).map (.int .i64)) ∧
        Bk wr w1.heap.size 51 #[.int .i64 p, .int .i64 q] ∧ Kept w wr) (fun _ i _ => xs.length - (intOf i).toNat)
    case atStart => exact ⟨0, Nat.zero_le _, rfl, ⟨rfl, .inl ⟨rfl, rfl⟩⟩, Bk.new w1 _ _, hk1.alloc _⟩
    case round =>
      obtain ⟨k, hk, rfl, hu, hb0, hkw⟩ := hrel
      have hsz := hb0.lt
      have hpl := pickK_len xs ts k
      by_cases hlt : k < xs.length
      · obtain ⟨a, rfl, hc⟩ := sum_at (HS.out.kept hkw) hlt
        have HB0 := Lib.hid hb0
        clear hb0
        by_cases hlt2 : k < ts.length
        · obtain ⟨b, rfl, hc2⟩ := bool_at (HT.out.kept hkw) hlt2
          have hi2 : (k : Int) < (ts.length : Int) := by omega
          rcases hbb : ts[k] with _ | _
          · rw [hbb] at hc2
            have HE := Lib.hid (pickK_no (xs := xs) hlt2 hbb)
            clear hbb
            go_wp2_with fail
            go_roundw
            case rel => exact ⟨k + 1, by omega, by go_num, by rw [HE.out]; exact hu, HB0.out, hkw⟩
            case measure => simp [intOf]; omega
          · rw [hbb] at hc2
            have HE := Lib.hid (pickK_yes hlt hlt2 hbb)
            clear hbb
            generalize xs[k] = x at *
            go_wp2_with (at_builtin; refine app1 rfl _ _ 47 rfl (w1.heap.size + 1) 2 (.int .i64 0) 8 Try.underlying47 Try.info_i64 rfl _ _ _ rfl hu (.int .i64 x) rfl rfl ?c1 ?c2 ?c3 ?_)
            case c1 => unfold maxLen; omega
            case c2 => omega
            case c3 => omega
            intro v' w3 hown hgrow hat
            have hkw1 := hkw.grown hu (by omega) hgrow
            have hb1 := HB0.out.grown hu (by omega) hgrow
            rw [← map_snoc] at hown
            have HO : Hid (w3.ownsRow (w1.heap.size + 1) 2 1 v' (pickK xs ts (k + 1)).length ((pickK xs ts (k + 1)).map (.int .i64))) := by
              unfold Hid
              rw [HE.out]; simpa using hown
            clear hu hown hgrow hat
            go_wp2_with fail
            go_roundw
            case rel => exact ⟨k + 1, by omega, by go_num, HO.out, hb1, hkw1⟩
            case measure => simp [intOf]; omega
        · have HE := Lib.hid (pickK_past (xs := xs) (ts := ts) (k := k) (by omega))
          go_wp2_with fail
          go_roundw
          case rel => exact ⟨k + 1, by omega, by go_num, by rw [HE.out]; exact hu, HB0.out, hkw⟩
          case measure => simp [intOf]; omega
      · obtain rfl : k = xs.length := by omega
        obtain ⟨A2, c2, rfl⟩ := owns_form hu
        have HO := Lib.hid (Holds.own hu)
        clear hu
        have HI : Hid (∀ n ∈ pickK xs ts xs.length, In64 n) := fun n hn => HX.out n (by
          have := (pickK_sub xs ts xs.length (Nat.le_refl _)).subset hn
          rwa [List.take_length] at this)
        generalize pickK xs ts xs.length = l at *
        have HB0 := Lib.hid hb0
        have HK := Lib.hid hkw
        clear hb0 hkw
        go_wp2_with fail
        obtain ⟨W2, rfl⟩ : ∃ W2, W2 = wr := ⟨wr, rfl⟩
        obtain ⟨L, HL⟩ : ∃ L, Hid (L = l.reverse) := ⟨_, rfl⟩
        have HLl : Hid (L.length = l.length) := by unfold Hid; rw [HL.out, List.length_reverse]
        have HLs : Hid (∀ j (h : j < l.length), L.take (j + 1) = L.take j ++ [l[l.length - 1 - j]]) := fun j h => by
          rw [HL.out, take_snoc (by rw [List.length_reverse]; exact h), List.getElem_reverse]
        go_loopw [8, 52] (fun v i ws => ∃ j : Nat, j ≤ l.length ∧ i = .int .i64 j ∧ ws.ownsRow W2.heap.size 2 1 v (L.take j).length ((L.take j).map (.int .i64)) ∧ Kept W2 ws) (fun _ i _ => l.length - (intOf i).toNat)
        case atStart => exact ⟨0, Nat.zero_le _, rfl, ⟨rfl, .inl ⟨rfl, rfl⟩⟩, Kept.refl⟩
        case round =>
          obtain ⟨j, hj, rfl, hv, hkv⟩ := hrel
          have hzv := hkv.size
          have hjl : (L.take j).length ≤ j := List.length_take_le ..
          by_cases hlt3 : j < l.length
          · obtain ⟨a, rfl, hc⟩ := sum_at (HO.out.kept hkv) (k := l.length - 1 - j) (by omega)
            have e1 : ((l.length : Int) - 1 - (j : Int)).toNat = l.length - 1 - j := by omega
            have HE := Lib.hid (HLs.out j hlt3)
            generalize l[l.length - 1 - j] = x at *
            go_wp2_with (at_builtin; refine app1 rfl _ _ 47 rfl W2.heap.size 2 (.int .i64 0) 8 Try.underlying47 Try.info_i64 rfl _ _ _ rfl hv (.int .i64 x) rfl rfl ?c1 ?c2 ?c3 ?_)
            case c1 => unfold maxLen; omega
            case c2 => omega
            case c3 => omega
            intro v' w3 hown hgrow hat
            have HK3 := Lib.hid (hkv.grown hv (Nat.le_refl _) hgrow)
            have HO3 : Hid (w3.ownsRow W2.heap.size 2 1 v' (L.take (j + 1)).length ((L.take (j + 1)).map (.int .i64))) := by
              unfold Hid
              rw [HE.out]; simpa using hown
            clear hv hown hgrow hat
            go_wp2_with fail
            go_roundw
            case rel => exact ⟨j + 1, by omega, by go_num, HO3.out, HK3.out⟩
            case measure => simp [intOf]; omega
          · obtain rfl : j = l.length := by omega
            rw [show L.take l.length = L from List.take_of_length_le (by rw [HLl.out]; exact Nat.le_refl _)] at hv
            obtain ⟨A3, c3, rfl⟩ := owns_form hv
            have HO3 := Lib.hid (Holds.own hv)
            clear hv
            obtain ⟨P1, P2, P3, P4, P5, P6⟩ := HP.out
            obtain ⟨t1, t2, t3, t4, t5⟩ := (HB0.out.kept hkv).two
            have HI2 : Hid (∀ n ∈ L, In64 n) := fun n hn => HI.out n (List.mem_reverse.1 (HL.out ▸ hn))
            have e1 : decide (q ≤ l.sum) = true := by simpa using P3
            have e2 : decide (l.sum ≤ p) = true := by simpa using P4
            have e3 : decide (0 ≤ p) = true := by simpa using P5
            have e4 : decide (q ≤ 0) = true := by simpa using P6
            have HP1 := Lib.hid (show sumW (sumV l) = .tuple #[.int .i64 l.sum, .bool true] by rw [P1]; rfl)
            have HP2 := Lib.hid (show sumW (sumV L) = .tuple #[.int .i64 l.sum, .bool true] by rw [HL.out, P2]; rfl)
            clear P1 P2 P3 P4 P5 P6 HP
            have hl3 : l.length ≤ 9223372036854775807 := by omega
            have hl4 : L.length ≤ 9223372036854775807 := by rw [HLl.out]; exact hl3
            generalize l.sum = S at *
            clear HL HLs
            go_wp2_with fail
            refine (exact_sum A2 c2 l _ HI.out (HO.out.kept hkv) hl3).mono ?_
            rintro e w4 ⟨rfl, rfl⟩
            rw [HP1.out]
            go_wp2_with fail
            refine (exact_sum A3 c3 L _ HI2.out HO3.out hl4).mono ?_
            rintro e w4 ⟨rfl, rfl⟩
            rw [HP2.out]
            go_wp2_with fail
            refine (exact_holds p q S _).mono ?_
            rintro e w4 ⟨rfl, hk4⟩
            rw [e1, e2]
            obtain ⟨t1, t2, t3, t4, t5⟩ := ((HB0.out.kept hkv).kept hk4).two
            go_wp2_with fail
            refine (exact_may p q _).mono ?_
            rintro e w5 ⟨rfl, hk5⟩
            rw [e3, e4]
            go_wp2_with fail
            refine (awake3 _).mono ?_
            rintro e w6 ⟨rfl, hk6⟩
            go_wp2_with fail
            go_ret
            exact ⟨rfl, (((HK.out.then hkv).then hk4).then hk5).then hk6⟩

end Go.Proofs.Ytflgjcajfefamaa
