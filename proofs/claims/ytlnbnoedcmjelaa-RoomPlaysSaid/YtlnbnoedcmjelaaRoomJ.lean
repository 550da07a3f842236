/- Layer 10 (room): the document's calls, walked; how they answer the program's. -/
import Derived.Test.YtlnbnoedcmjelaaRoomI
namespace Go.Proofs.Ytlnbnoedcmjelaa
open Go.RowKit Room

theorem each_wrong {n : Int} {U : List Int} {must : Bool} : ∀ (L d : List Int) (us : Nat → Bool), (∀ i : Nat, us i = if d.contains (i : Int) then !must else U.contains (i : Int)) → errP (eachP n must us L) = wrongR n U must d L
  | [], _, _, _ => rfl
  | x :: t, d, us, h => by
    rw [eachP, wrongR]
    by_cases hr : x < 0 ∨ n ≤ x
    · rw [if_pos hr, if_pos hr]; rfl
    · rw [if_neg hr, if_neg hr]
      have hx : us x.toNat = if d.contains x then !must else U.contains x := by
        rw [h, show ((x.toNat : Nat) : Int) = x by omega]
      unfold inL
      by_cases hd : d.contains x = true
      · rw [if_pos hd] at hx
        rw [if_neg (show ¬ us x.toNat = must from fun hh => by rw [hx] at hh; cases must <;> cases hh), if_neg (show ¬ (U.contains x = must ∧ d.contains x = false) from fun hh => by rw [hd] at hh; cases hh.2)]
        cases must <;> rfl
      · have hd' : d.contains x = false := by simpa using hd
        have hx' : us x.toNat = U.contains x := by rw [hx, if_neg hd]
        by_cases hu : U.contains x = must
        · rw [if_pos (hx'.trans hu), if_pos ⟨hu, hd'⟩]
          refine each_wrong t (d ++ [x]) (Room.flip us x.toNat) fun i => ?_
          unfold Room.flip
          by_cases e : i = x.toNat
          · subst e
            have h1 : (d ++ [x]).contains ((x.toNat : Nat) : Int) = true := by
              rw [List.contains_iff_mem, List.mem_append]; right; simp; omega
            rw [h1, if_pos rfl, hx', hu, decide_eq_true rfl]; cases must <;> rfl
          · have h1 : (d ++ [x]).contains ((i : Nat) : Int) = d.contains ((i : Nat) : Int) := by
              rw [Bool.eq_iff_iff, List.contains_iff_mem, List.contains_iff_mem, List.mem_append]
              refine ⟨fun hh => hh.resolve_right fun hh => e ?_, .inl⟩
              simp at hh; omega
            rw [h1, decide_eq_false e, h i]; simp
        · rw [if_neg (show ¬ us x.toNat = must from fun hh => hu (hx'.symm.trans hh)), if_neg (show ¬ (U.contains x = must ∧ d.contains x = false) from fun hh => hu hh.1)]
          cases must <;> rfl
/-- What pages that can be turned are. -/
theorem wrong_ok {n : Int} {U : List Int} {must : Bool} : ∀ (L d : List Int), d.Nodup → wrongR n U must d L = 0 → (d ++ L).Nodup ∧ ∀ x ∈ L, 0 ≤ x ∧ x < n ∧ U.contains x = must
  | [], d, hd, _ => ⟨by simpa using hd, fun x hx => (by cases hx)⟩
  | x :: t, d, hd, h => by
    rw [wrongR] at h
    split at h
    · cases h
    · split at h
      · rename_i hr hu
        obtain ⟨h1, h2⟩ := hu
        unfold inL at h1 h2
        have hnd : (d ++ [x]).Nodup := List.nodup_append.2 ⟨hd, by simp, fun a ha b hb e => by
          simp at hb; subst hb; subst e
          rw [← Bool.not_eq_true, List.contains_iff_mem] at h2
          exact h2 ha⟩
        obtain ⟨g1, g2⟩ := wrong_ok t (d ++ [x]) hnd h
        refine ⟨by rw [List.append_assoc] at g1; exact g1, fun y hy => ?_⟩
        rcases List.mem_cons.1 hy with rfl | hy
        · exact ⟨by omega, by omega, h1⟩
        · exact g2 y hy
      · cases must <;> simp at h
theorem wfU.each {n : Nat} {U : List Int} {us : Nat → Bool} (h : wfU n U us) (must : Bool) (L : List Int) : errP (eachP n must us L) = wrongR n U must [] L :=
  each_wrong L [] us fun i => by rw [h.is i]; rfl
theorem errP_ok {x : Except Int (Nat → Bool)} {n : Int} {must : Bool} {us : Nat → Bool} {L : List Int} (he : eachP n must us L = x) (h : errP x = 0) : ∃ vs, x = .ok vs := by
  cases x with
  | ok vs => exact ⟨vs, rfl⟩
  | error e => exact absurd h (errP_pos he)
theorem wfU.use2 {n : Nat} {U L : List Int} {us vs : Nat → Bool} (h : wfU n U us) (hw : wrongR n U false [] L = 0) (he : eachP n false us L = .ok vs) : wfU n (U ++ L) vs := by
  obtain ⟨h1, h2⟩ := wrong_ok L [] List.nodup_nil hw
  refine h.use (by simpa using h1) (fun x hx => ?_) he
  obtain ⟨g0, g1, g2⟩ := h2 x hx
  exact ⟨g0, g1, by rw [h.at' g0]; exact g2⟩
/-- Those that are not given back. -/
def restL (U L : List Int) : List Int := U.filter fun x => !inL L x
theorem wfU.free2 {n : Nat} {U L : List Int} {us vs : Nat → Bool} (h : wfU n U us) (he : eachP n true us L = .ok vs) : wfU n (restL U L) vs := by
  refine ⟨h.nd.filter _, fun x hx => h.rg x (List.mem_filter.1 hx).1, fun i => ?_⟩
  have hR : (restL U L).contains (i : Int) = true ↔ (i : Int) ∈ U ∧ (!L.contains (i : Int)) = true := by
    rw [List.contains_iff_mem]; unfold restL inL; rw [List.mem_filter]
  rw [eachP_fl he i, h.is i, Bool.eq_iff_iff, hR]
  by_cases e : L.contains (i : Int) = true
  · rw [if_pos e]
    refine ⟨fun h => (by cases h), fun h => ?_⟩
    have h2 := h.2
    rw [e] at h2; cases h2
  · have e' : L.contains (i : Int) = false := by simpa using e
    rw [if_neg e, List.contains_iff_mem]
    exact ⟨fun h => ⟨h, by rw [e']; rfl⟩, fun h => h.1⟩
theorem restL_succ {U L : List Int} {k : Nat} (hk : k < U.length) : restL (U.take (k + 1)) L = if inL L U[k] then restL (U.take k) L else restL (U.take k) L ++ [U[k]] := by
  unfold restL
  rw [List.take_succ_eq_append_getElem hk, List.filter_append]
  cases h : inL L U[k] <;> simp [h]

/-- A slice that grows is the call's own. -/
def UseR (n : Nat) (must : Bool) (U L V : List Int) (A : Option Addr) (u c : Nat) (w : World) (e : Ending) (w' : World) : Prop :=
  Kept w w' ∧ ((wrongR n U must [] L ≠ 0 ∧ e = .returned (.tuple #[.slice A u c, .int .i64 (wrongR n U must [] L)])) ∨
    (wrongR n U must [] L = 0 ∧ ∃ B d, e = .returned (.tuple #[.slice B V.length d, .int .i64 0]) ∧ w'.ownsRow w.heap.size 3 1 (.slice B V.length d) V.length (ivs V)))
theorem UseR.no {n : Nat} {must : Bool} {U L V : List Int} {A : Option Addr} {u c : Nat} {w w' : World} {e : Ending} {x : Int} (h : wrongR n U must [] L = x) (hx : x ≠ 0) (he : e = .returned (.tuple #[.slice A u c, .int .i64 x])) (hk : Kept w w') : UseR n must U L V A u c w e w' := by
  subst h; exact ⟨hk, .inl ⟨hx, he⟩⟩
theorem UseR.yes {n : Nat} {must : Bool} {U L V : List Int} {A B : Option Addr} {u c d : Nat} {w w' : World} {e : Ending} (h : wrongR n U must [] L = 0) (he : e = .returned (.tuple #[.slice B V.length d, .int .i64 0])) (ho : w'.ownsRow w.heap.size 3 1 (.slice B V.length d) V.length (ivs V)) (hk : Kept w w') : UseR n must U L V A u c w e w' :=
  ⟨hk, .inr ⟨h, B, d, he, ho⟩⟩

set_option maxRecDepth 100000 in
set_option maxHeartbeats 2000000 in
theorem ref10_use (A B : Option Addr) (c d u m n : Nat) (U L : List Int) (w : World) (hu : U.length = u) (hm : L.length = m) (ha : Holds w A u (ivs U)) (hb : Holds w B m (ivs L)) (hmd : m ≤ d) (hm9 : m ≤ 1000000) (hu9 : u ≤ 1000000) (hd9 : d ≤ 9223372036854775807)
    (hA0 : A = none → u = 0 ∧ c = 0) (hB0 : B = none → m = 0 ∧ d = 0) :
    Calls Try.prog 35 #[.slice A u c, .int .i64 n, .slice B m d] w (UseR n false U L (U ++ L) A u c w) := by
  have HA := Lib.hid ha
  have HB := Lib.hid hb
  have HA0 := Lib.hid hA0
  have HB0 := Lib.hid hB0
  have HL := Lib.hid (show (U ++ L).length = 0 + u + m by rw [List.length_append, hu, hm]; omega)
  have HM := Lib.hid hm
  have HU := Lib.hid hu
  clear ha hb hu hm hA0 hB0
  go_enter Try.func35, Try.ntmps35
  go_wp2_with fail
  refine (ref10_wrong A B c d u m n U L false _ HU.out HM.out HA.out HB.out hmd hm9 hu9 hd9).mono ?_
  rintro e w1 ⟨rfl, hk1⟩
  have HK := Lib.hid hk1
  have hz := hk1.size
  have ha1 := HA.out.kept hk1
  have hb1 := HB.out.kept hk1
  obtain ⟨x, hx⟩ : ∃ x, wrongR n U false [] L = x := ⟨_, rfl⟩
  have HX := Lib.hid hx
  rw [hx]
  clear hk1 hx
  by_cases h0 : x = 0
  · subst h0
    have HA1 := Lib.hid ha1
    have HB1 := Lib.hid hb1
    have ho1 := World.ownsRow_lit (base := w.heap.size) (e := 3) (size := 1) w1 #[] 0 hz (Nat.zero_le _) rfl
    clear ha1 hb1
    go_wp2_with (at_builtin; first
      | (refine appS rfl _ _ 36 rfl w.heap.size 3 (.int .i64 0) 8 Try.underlying36 Try.info_int rfl _ 0 _ rfl ho1 A u c (ivs U) (ivs_one U) rfl (HA1.out.kept (Kept.refl.alloc _)) HA0.out ?c1 ?c2 ?c3 ?_))
    case c1 => unfold maxLen; omega
    case c2 => omega
    case c3 => rw [World.size_alloc]; omega
    intro v2 w2 ho2 hg2 _
    have hk2 := (HK.out.alloc (.cells #[] 3)).grown ho1 (Nat.le_refl _) hg2
    have HK2 := Lib.hid hk2
    have HB2 := Lib.hid (HB.out.kept hk2)
    have hz2 := hk2.size
    clear hk2 hg2 ho1
    go_wp2_with (at_builtin; refine appS rfl _ _ 36 rfl w.heap.size 3 (.int .i64 0) 8 Try.underlying36 Try.info_int rfl _ _ _ rfl ho2 B m d (ivs L) (ivs_one L) rfl HB2.out HB0.out ?c1 ?c2 ?c3 ?_)
    case c1 => unfold maxLen; omega
    case c2 => omega
    case c3 => omega
    intro v3 w3 ho3 hg3 _
    have HK3 := Lib.hid (HK2.out.grown ho2 (Nat.le_refl _) hg3)
    have HO3 := Lib.hid (show w3.ownsRow w.heap.size 3 1 v3 (U ++ L).length (ivs (U ++ L)) by
      rw [HL.out]
      simpa [ivs] using ho3)
    clear ho3 hg3 ho2
    obtain ⟨C, cc, rfl⟩ := owns_form HO3.out
    go_wp2_with fail
    go_ret2
    exact UseR.yes HX.out rfl HO3.out HK3.out
  · have h1 := beq_eq_false_iff_ne.2 h0
    have h2 := bne_iff_ne.2 h0
    have H0 := Lib.hid h0
    clear h0 ha1 hb1
    go_wp2_with fail
    go_ret2
    exact UseR.no HX.out H0.out rfl HK.out

set_option maxRecDepth 100000 in
set_option maxHeartbeats 2000000 in
theorem ref10_free (A B : Option Addr) (c d u m n : Nat) (U L : List Int) (w : World) (hu : U.length = u) (hm : L.length = m) (ha : Holds w A u (ivs U)) (hb : Holds w B m (ivs L)) (hmd : m ≤ d) (hm9 : m ≤ 1000000) (hu9 : u ≤ 1000000) (hd9 : d ≤ 9223372036854775807) :
    Calls Try.prog 37 #[.slice A u c, .int .i64 n, .slice B m d] w (UseR n true U L (restL U L) A u c w) := by
  subst hu
  have HA := Lib.hid ha
  have HB := Lib.hid hb
  have HM := Lib.hid hm
  clear ha hb hm
  go_enter Try.func37, Try.ntmps37
  go_wp2_with fail
  refine (ref10_wrong A B c d U.length m n U L true _ rfl HM.out HA.out HB.out hmd hm9 hu9 hd9).mono ?_
  rintro e w1 ⟨rfl, hk1⟩
  have HK := Lib.hid hk1
  obtain ⟨x, hx⟩ : ∃ x, wrongR n U true [] L = x := ⟨_, rfl⟩
  have HX := Lib.hid hx
  rw [hx]
  clear hk1 hx
  by_cases h0 : x = 0
  · subst h0
    go_wp2_with fail
    go_loopw [9, 10] (fun v i wr => ∃ k : Nat, k ≤ U.length ∧ i = .int .i64 k ∧ Kept w wr ∧ wr.ownsRow w.heap.size 3 1 v (restL (U.take k) L).length (ivs (restL (U.take k) L))) (fun _ i _ => U.length - (intOf i).toNat)
    case atStart => exact ⟨0, Nat.zero_le _, rfl, HK.out, owns_nil _ _ _⟩
    case round =>
      obtain ⟨k, hk, rfl, hkw, ho⟩ := hrel
      obtain ⟨C, cc, rfl⟩ := owns_form ho
      have HKW := Lib.hid hkw
      have HO := Lib.hid ho
      clear hkw ho
      by_cases hlt : k < U.length
      · obtain ⟨a, e1, hc⟩ := iv_at (HA.out.kept HKW.out) hlt
        have HS := Lib.hid (restL_succ (L := L) hlt)
        have hrl : (restL (U.take k) L).length ≤ 1000000 := by
          unfold restL
          have := List.length_filter_le (fun x => !inL L x) (U.take k)
          rw [List.length_take] at this; omega
        generalize U[k] = y at *
        subst e1
        have HB2 := Lib.hid (HB.out.kept HKW.out)
        have hi : (k : Int) < (U.length : Int) := by omega
        obtain ⟨b, hb⟩ : ∃ b, inL L y = b := ⟨_, rfl⟩
        have HB1 := Lib.hid hb
        rw [hb] at HS
        clear hb
        have hz := HKW.out.size
        obtain ⟨V, hV⟩ : ∃ V, restL (U.take k) L = V := ⟨_, rfl⟩
        rw [hV] at HS HO hrl ⊢
        clear hV
        go_wp2_with fail
        refine (in_val HB1.out HM.out HB2.out (by omega)).mono ?_
        rintro e w2 ⟨rfl, rfl⟩
        cases b
        · have ho2 := HO.out
          go_wp2_with (at_builtin; refine app1 rfl _ _ 36 rfl w.heap.size 3 (.int .i64 0) 8 Try.underlying36 Try.info_int rfl _ _ _ rfl ho2 (.int .i64 y) rfl rfl ?c1 ?c2 ?c3 ?_)
          case c1 => unfold maxLen; omega
          case c2 => omega
          case c3 => omega
          intro v' w6 hown hgrow hat
          have HB6 := Lib.hid (HKW.out.grown ho2 (Nat.le_refl _) hgrow)
          have HO6 : Hid (w6.ownsRow w.heap.size 3 1 v' (restL (U.take (k + 1)) L).length (ivs (restL (U.take (k + 1)) L))) := by
            unfold Hid
            rw [HS.out]
            simpa [ivs] using hown
          clear hown hgrow hat ho2
          go_wp2_with fail
          go_roundw
          case rel => exact ⟨k + 1, by omega, by go_num, HB6.out, HO6.out⟩
          case measure => simp [intOf]; omega
        · have HO6 : Hid (wr.ownsRow w.heap.size 3 1 (.slice C V.length cc) (restL (U.take (k + 1)) L).length (ivs (restL (U.take (k + 1)) L))) := by
            unfold Hid
            rw [HS.out]
            exact HO.out
          go_wp2_with fail
          go_roundw
          case rel => exact ⟨k + 1, by omega, by go_num, HKW.out, HO6.out⟩
          case measure => simp [intOf]; omega
      · have hT : U.take k = U := List.take_of_length_le (by omega)
        rw [hT] at HO ⊢
        clear hT
        go_wp2_with fail
        go_ret2
        exact UseR.yes HX.out rfl HO.out HKW.out
  · have h1 := beq_eq_false_iff_ne.2 h0
    have h2 := bne_iff_ne.2 h0
    have H0 := Lib.hid h0
    clear h0
    go_wp2_with fail
    go_ret2
    exact UseR.no HX.out H0.out rfl HK.out

set_option maxRecDepth 100000 in
set_option maxHeartbeats 2000000 in
theorem ref10_lowest (A : Option Addr) (c u m n : Nat) (U : List Int) (us : Nat → Bool) (w : World) (hu : U.length = u) (ha : Holds w A u (ivs U)) (hw : wfU n U us) (hn : n ≤ 2047) (hm : m + u ≤ n) :
    Calls Try.prog 39 #[.slice A u c, .int .i64 n, .int .i64 m] w fun e w' => ∃ B d, e = .returned (.tuple #[.slice B m d, .int .i64 0]) ∧ w'.ownsRow w.heap.size 3 1 (.slice B m d) m (ivs (takenL us n m)) ∧ Kept w w' := by
  have HA := Lib.hid ha
  have HU := Lib.hid hu
  have HW := Lib.hid hw
  have HFL := Lib.hid (freeL_len us)
  have HCN := Lib.hid (show cnt us n ≤ u by
    have h1 := hw.cnt (by omega)
    have h2 := cnt_mono us n (2048 - n)
    rw [show n + (2048 - n) = 2048 by omega] at h2
    omega)
  have h0 : ¬ (m : Int) < 0 := by omega
  have h7 : ¬ (n : Int) - (u : Int) < (m : Int) := by omega
  clear ha hu hw
  go_enter Try.func39, Try.ntmps39
  go_wp2_with fail
  go_loopw [8, 9] (fun v i wr => ∃ k : Nat, k ≤ n ∧ i = .int .i64 k ∧ (freeL us k).length ≤ m ∧ Kept w wr ∧ wr.ownsRow w.heap.size 3 1 v (freeL us k).length (ivs (freeL us k))) (fun _ i _ => n - (intOf i).toNat)
  case atStart => exact ⟨0, Nat.zero_le _, rfl, Nat.zero_le _, Kept.refl, owns_nil _ _ _⟩
  case round =>
    obtain ⟨k, hk, rfl, hkm, hkw, ho⟩ := hrel
    obtain ⟨C, cc, rfl⟩ := owns_form ho
    have HO := Lib.hid ho
    have HK := Lib.hid hkw
    clear ho hkw
    have HS := Lib.hid (freeL_succ us k)
    have HT := Lib.hid (fun (e : (freeL us k).length = m) => freeL_take us hk e)
    have HKN := Lib.hid (show k = n → m ≤ (freeL us k).length from fun e => by subst e; have h1 := HCN.out; have h2 := HFL.out k; omega)
    have HIN := Lib.hid (show inL U (k : Int) = us k from (HW.out.is k).symm)
    obtain ⟨L, hL⟩ : ∃ L, freeL us k = L := ⟨_, rfl⟩
    rw [hL] at hkm HO HT HS HKN ⊢
    clear hL
    by_cases hlt : L.length < m
    · have hkn : k < n := by have := HKN.out; omega
      have hl' : (L.length : Int) < (m : Int) := by omega
      have hk' : (k : Int) < (n : Int) := by omega
      obtain ⟨b, hb⟩ : ∃ b, us k = b := ⟨_, rfl⟩
      rw [hb] at HS HIN
      clear hb
      have HA2 := Lib.hid (HA.out.kept HK.out)
      have hz := HK.out.size
      go_wp2_with fail
      refine (in_val HIN.out HU.out HA2.out (by omega)).mono ?_
      rintro e w2 ⟨rfl, rfl⟩
      cases b
      · have ho2 := HO.out
        go_wp2_with (at_builtin; refine app1 rfl _ _ 36 rfl w.heap.size 3 (.int .i64 0) 8 Try.underlying36 Try.info_int rfl _ _ _ rfl ho2 (.int .i64 (k : Int)) rfl rfl ?c1 ?c2 ?c3 ?_)
        case c1 => unfold maxLen; omega
        case c2 => omega
        case c3 => omega
        intro v' w6 hown hgrow hat
        have HB6 := Lib.hid (HK.out.grown ho2 (Nat.le_refl _) hgrow)
        have HO6 : Hid (w6.ownsRow w.heap.size 3 1 v' (freeL us (k + 1)).length (ivs (freeL us (k + 1)))) := by
          unfold Hid
          rw [HS.out]
          simpa [ivs] using hown
        have HL6 := Lib.hid (show (freeL us (k + 1)).length ≤ m by rw [HS.out]; simp; omega)
        clear hown hgrow hat ho2
        go_wp2_with fail
        go_roundw
        case rel => exact ⟨k + 1, by omega, by go_num, HL6.out, HB6.out, HO6.out⟩
        case measure => simp [intOf]; omega
      · have HO6 : Hid (wr.ownsRow w.heap.size 3 1 (.slice C L.length cc) (freeL us (k + 1)).length (ivs (freeL us (k + 1)))) := by
          unfold Hid
          rw [HS.out]
          exact HO.out
        have HL6 := Lib.hid (show (freeL us (k + 1)).length ≤ m by rw [HS.out]; exact hkm)
        go_wp2_with fail
        go_roundw
        case rel => exact ⟨k + 1, by omega, by go_num, HL6.out, HK.out, HO6.out⟩
        case measure => simp [intOf]; omega
    · have he : L.length = m := by omega
      have HO2 := Lib.hid (show wr.ownsRow w.heap.size 3 1 (.slice C m cc) m (ivs (takenL us n m)) by
        have ho := HO.out
        rw [he] at ho
        unfold takenL
        rw [← HT.out he]; exact ho)
      rw [he]
      clear hlt he
      by_cases hkn : (k : Int) < (n : Int)
      · go_wp2_with fail
        go_ret2
        exact ⟨C, cc, rfl, HO2.out, HK.out⟩
      · go_wp2_with fail
        go_ret2
        exact ⟨C, cc, rfl, HO2.out, HK.out⟩
theorem ref10_lowest_no (A : Option Addr) (c u n : Nat) (m x : Int) (w : World) (hu : u ≤ 1000000) (hn : n ≤ 2047) (hx : (m < 0 ∧ x = 2) ∨ (0 ≤ m ∧ (n : Int) - u < m ∧ x = 7)) :
    Calls Try.prog 39 #[.slice A u c, .int .i64 n, .int .i64 m] w fun e w' => e = .returned (.tuple #[.slice none 0 0, .int .i64 x]) ∧ w = w' := by
  rcases hx with ⟨h1, rfl⟩ | ⟨h0, h1, rfl⟩
  · go_enter Try.func39, Try.ntmps39
    go_wp2_with fail
    go_ret2
    exact ⟨rfl, rfl⟩
  · have h0' : ¬ m < 0 := by omega
    go_enter Try.func39, Try.ntmps39
    go_wp2_with fail
    go_ret2
    exact ⟨rfl, rfl⟩

end Go.Proofs.Ytlnbnoedcmjelaa
