/- Layer 10 (room): pages taken; a room that no call made; is a number among some? -/
import Derived.Test.YtlnbnoedcmjelaaRoomE
namespace Go.Proofs.Ytlnbnoedcmjelaa
open Go.RowKit Room

theorem eachP_ok (n : Int) (must : Bool) : ∀ (l : List Int) (us : Nat → Bool), (∀ x ∈ l, 0 ≤ x ∧ x < n ∧ us x.toNat = must) → l.Nodup → ∃ vs, eachP n must us l = .ok vs
  | [], us, _, _ => ⟨us, rfl⟩
  | x :: t, us, h, hd => by
    obtain ⟨h0, h1, h2⟩ := h x (List.mem_cons_self ..)
    rw [List.nodup_cons] at hd
    obtain ⟨vs, hv⟩ := eachP_ok n must t (Room.flip us x.toNat) (fun y hy => by
      obtain ⟨g0, g1, g2⟩ := h y (List.mem_cons_of_mem _ hy)
      refine ⟨g0, g1, ?_⟩
      have hne : ¬ y.toNat = x.toNat := fun e => hd.1 (by have : y = x := by omega
                                                          rwa [← this])
      unfold Room.flip
      rw [decide_eq_false hne, g2]; simp) hd.2
    refine ⟨vs, ?_⟩
    rw [eachP, if_neg (by omega), if_pos h2, hv]
theorem eachP_fl {n : Int} {must : Bool} : ∀ {l : List Int} {us vs : Nat → Bool}, eachP n must us l = .ok vs → ∀ i : Nat, vs i = if l.contains (i : Int) then !must else us i
  | [], us, vs, h, i => by
    have := Except.ok.inj h
    subst this; simp
  | x :: t, us, vs, h, i => by
    unfold eachP at h
    split at h
    · cases h
    · rename_i hr
      split at h
      · rename_i hm
        rw [eachP_fl h i]
        by_cases e : (i : Int) = x
        · subst e
          have hx : us i = must := by simpa using hm
          simp [Room.flip, hx]
        · have e2 : ¬ i = x.toNat := by omega
          simp only [List.contains_cons]
          rw [beq_eq_false_iff_ne.2 e]
          simp [Room.flip, e2]
      · cases h

theorem owns_btn {w w' : World} {g base e size n : Nat} {v : Value} {xs : List Value} (h : w.ownsRow base e size v n xs) (hk : Btn w w' g) (hg : g < base) : w'.ownsRow base e size v n xs := by
  refine h.kept hk ?_
  cases hv : v.ownBlock with
  | none => exact .inl rfl
  | some i => exact .inr fun e => by injection e with e; have := (h.lt i hv).1; omega

theorem room_lowest_neg (g n : Nat) (m : Int) (us : Nat → Bool) (w : World) (h : Rm w g n us) (hm : m < 0) :
    Calls Try.prog 40 #[.pointer (some ⟨g, 0, none⟩), .int .i64 m] w fun e w' => e = .returned (.tuple #[.slice none 0 0, .int .i64 2]) ∧ w = w' := by
  have H := Lib.hid h
  clear h
  go_enter Try.func40, Try.ntmps40
  go_wp2_with fail
  refine (room_made _ H.out).mono ?_
  rintro e w1 ⟨rfl, rfl⟩
  go_wp2_with fail
  go_ret2
  exact ⟨rfl, rfl⟩
theorem room_lowest_full (g n : Nat) (m : Int) (us : Nat → Bool) (w : World) (h : Rm w g n us) (hn : n ≤ 2047) (hm : 0 ≤ m) (hf : (n : Int) - cnt us 2048 < m) :
    Calls Try.prog 40 #[.pointer (some ⟨g, 0, none⟩), .int .i64 m] w fun e w' => e = .returned (.tuple #[.slice none 0 0, .int .i64 7]) ∧ w = w' := by
  have H := Lib.hid h
  clear h
  obtain ⟨C, hC⟩ : ∃ C, cnt us 2048 = C := ⟨_, rfl⟩
  have HCC := Lib.hid hC
  have hc := cnt_le us 2048
  rw [hC] at hf hc
  clear hC
  go_enter Try.func40, Try.ntmps40
  go_wp2_with fail
  refine (room_made _ H.out).mono ?_
  rintro e w1 ⟨rfl, rfl⟩
  go_wp2_with fail
  refine (room_countC g n C us _ H.out hn HCC.out).mono ?_
  rintro e w1 ⟨rfl, rfl⟩
  go_wp2_with fail
  go_ret2
  exact ⟨rfl, rfl⟩

/-- What is taken. -/
def takenL (us : Nat → Bool) (n m : Nat) : List Int := (freeL us n).take m
theorem takenL_len {us : Nat → Bool} {n m : Nat} (h2 : n ≤ 2047) (hm : m + cnt us 2048 ≤ n) : (takenL us n m).length = m := by
  have h := freeL_len us n
  have hc : cnt us n ≤ cnt us 2048 := by have := cnt_mono us n (2048 - n); rwa [show n + (2048 - n) = 2048 by omega] at this
  unfold takenL
  rw [List.length_take]; omega
theorem takenL_mem {us : Nat → Bool} {n m : Nat} {x : Int} (h : x ∈ takenL us n m) : 0 ≤ x ∧ x < n ∧ us x.toNat = false := freeL_mem (List.mem_of_mem_take h)
theorem takenL_nodup (us : Nat → Bool) (n m : Nat) : (takenL us n m).Nodup := (freeL_nodup us n).sublist (List.take_sublist _ _)

set_option maxRecDepth 100000 in
set_option maxHeartbeats 1000000 in
theorem room_take (g n m : Nat) (us : Nat → Bool) (w : World) (h : Rm w g n us) (hn : n ≤ 2047) (hm : m + cnt us 2048 ≤ n) :
    Calls Try.prog 41 #[.pointer (some ⟨g, 0, none⟩), .int .i64 m] w fun e w' => ∃ A c vs, e = .returned (.tuple #[.slice A m c, .int .i64 0]) ∧
      w'.ownsRow w.heap.size 3 1 (.slice A m c) m (ivs (takenL us n m)) ∧ Rm w' g n vs ∧ eachP n false us (takenL us n m) = .ok vs ∧ Btn w w' g := by
  have H := Lib.hid h
  have HL := Lib.hid (takenL_len (us := us) hn hm)
  obtain ⟨vs, hv⟩ := eachP_ok (n : Int) false (takenL us n m) us (fun x hx => takenL_mem hx) (takenL_nodup us n m)
  have HV := Lib.hid hv
  have HM := Lib.hid hm
  have hgl := h.bits.lt
  have hm2 : m ≤ 2047 := by omega
  clear h hv hm
  go_enter Try.func41, Try.ntmps41
  go_wp2_with fail
  refine (room_lowest g n m us _ H.out hn HM.out).mono ?_
  rintro e w1 ⟨A, c, rfl, ho, hk⟩
  have HO := Lib.hid (show w1.ownsRow w.heap.size 3 1 (.slice A m c) m (ivs (takenL us n m)) from ho)
  have HH := Lib.hid (Holds.own HO.out)
  have HR := Lib.hid (H.out.kept hk)
  have HK := Lib.hid hk
  clear ho hk
  go_wp2_with fail
  refine (room_useN g n m us A c (takenL us n m) _ HR.out hn HL.out HH.out (by omega)).mono ?_
  rintro e w2 ⟨rfl, hbt, hok, _⟩
  have HR2 := Lib.hid (hok vs HV.out)
  have HO2 := Lib.hid (owns_btn HO.out hbt hgl)
  have HB := Lib.hid ((Btn.of_kept HK.out g).then hbt)
  clear hbt hok
  rw [HV.out, show errP (.ok vs) = 0 from rfl]
  go_wp2_with fail
  go_ret2
  exact ⟨A, c, vs, rfl, HO2.out, HR2.out, HV.out, HB.out⟩
theorem room_take_no (g n : Nat) (m x : Int) (us : Nat → Bool) (w : World) (h : Rm w g n us) (hn : n ≤ 2047) (hx : (m < 0 ∧ x = 2) ∨ (0 ≤ m ∧ (n : Int) - cnt us 2048 < m ∧ x = 7)) :
    Calls Try.prog 41 #[.pointer (some ⟨g, 0, none⟩), .int .i64 m] w fun e w' => e = .returned (.tuple #[.slice none 0 0, .int .i64 x]) ∧ w = w' := by
  have H := Lib.hid h
  clear h
  rcases hx with ⟨h1, rfl⟩ | ⟨h0, h1, rfl⟩
  · go_enter Try.func41, Try.ntmps41
    go_wp2_with fail
    refine (room_lowest_neg g n m us _ H.out h1).mono ?_
    rintro e w1 ⟨rfl, rfl⟩
    go_wp2_with fail
    go_ret2
    exact ⟨rfl, rfl⟩
  · have H1 := Lib.hid h1
    clear h1
    go_enter Try.func41, Try.ntmps41
    go_wp2_with fail
    refine (room_lowest_full g n m us _ H.out hn h0 H1.out).mono ?_
    rintro e w1 ⟨rfl, rfl⟩
    go_wp2_with fail
    go_ret2
    exact ⟨rfl, rfl⟩

/-! A room that no call made. -/
theorem nob_use {v : Value} (A : Option Addr) (n c : Nat) (w : World) (h : Nob w v) : Calls Try.prog 36 #[v, .slice A n c] w fun e w' => e = .returned (.int .i64 1) ∧ w = w' := by
  have H := Lib.hid h
  clear h
  go_enter Try.func36, Try.ntmps36
  go_wp2_with fail
  refine (nob_made _ H.out).mono ?_
  rintro e w1 ⟨rfl, rfl⟩
  go_wp2_with fail
  go_ret
  exact ⟨rfl, rfl⟩
theorem nob_free {v : Value} (A : Option Addr) (n c : Nat) (w : World) (h : Nob w v) : Calls Try.prog 38 #[v, .slice A n c] w fun e w' => e = .returned (.int .i64 1) ∧ w = w' := by
  have H := Lib.hid h
  clear h
  go_enter Try.func38, Try.ntmps38
  go_wp2_with fail
  refine (nob_made _ H.out).mono ?_
  rintro e w1 ⟨rfl, rfl⟩
  go_wp2_with fail
  go_ret
  exact ⟨rfl, rfl⟩
theorem nob_lowest {v : Value} (m : Int) (w : World) (h : Nob w v) : Calls Try.prog 40 #[v, .int .i64 m] w fun e w' => e = .returned (.tuple #[.slice none 0 0, .int .i64 1]) ∧ w = w' := by
  have H := Lib.hid h
  clear h
  go_enter Try.func40, Try.ntmps40
  go_wp2_with fail
  refine (nob_made _ H.out).mono ?_
  rintro e w1 ⟨rfl, rfl⟩
  go_wp2_with fail
  go_ret2
  exact ⟨rfl, rfl⟩
theorem nob_take {v : Value} (m : Int) (w : World) (h : Nob w v) : Calls Try.prog 41 #[v, .int .i64 m] w fun e w' => e = .returned (.tuple #[.slice none 0 0, .int .i64 1]) ∧ w = w' := by
  have H := Lib.hid h
  clear h
  go_enter Try.func41, Try.ntmps41
  go_wp2_with fail
  refine (nob_lowest m _ H.out).mono ?_
  rintro e w1 ⟨rfl, rfl⟩
  go_wp2_with fail
  go_ret2
  exact ⟨rfl, rfl⟩
theorem nob_count {v : Value} (w : World) (h : Nob w v) : Calls Try.prog 45 #[v] w fun e w' => e = .returned (.int .i64 0) ∧ w = w' := by
  have H := Lib.hid h
  clear h
  go_enter Try.func45, Try.ntmps45
  go_wp2_with fail
  refine (nob_made _ H.out).mono ?_
  rintro e w1 ⟨rfl, rfl⟩
  go_wp2_with fail
  go_ret
  exact ⟨rfl, rfl⟩
theorem nob_used {v : Value} (i : Int) (w : World) (h : Nob w v) : Calls Try.prog 43 #[v, .int .i64 i] w fun e w' => e = .returned (.bool false) ∧ w = w' := by
  have H := Lib.hid h
  clear h
  go_enter Try.func43, Try.ntmps43
  go_wp2_with fail
  refine (nob_made _ H.out).mono ?_
  rintro e w1 ⟨rfl, rfl⟩
  go_wp2_with fail
  go_ret
  exact ⟨rfl, rfl⟩

/-! Is a number among some? -/
def inL (l : List Int) (x : Int) : Bool := l.contains x
set_option maxRecDepth 100000 in
theorem ref10_in (A : Option Addr) (c n : Nat) (l : List Int) (x : Int) (w : World) (hn : l.length = n) (hs : Holds w A n (ivs l)) (hl : n ≤ 9223372036854775807) :
    Calls Try.prog 44 #[.slice A n c, .int .i64 x] w fun e w' => e = .returned (.bool (inL l x)) ∧ w = w' := by
  subst hn
  have HS := Lib.hid hs
  clear hs
  go_enter Try.func44, Try.ntmps44
  go_wp2_with fail
  go_loop [5] (fun i => ∃ k : Nat, k ≤ l.length ∧ i = .int .i64 k ∧ Hid (inL l x = (l.drop k).contains x)) (fun i => l.length - (intOf i).toNat)
  case atStart => exact ⟨0, Nat.zero_le _, rfl, Lib.hid (by simp [inL])⟩
  case round =>
    obtain ⟨k, hk, rfl, HC⟩ := hrel
    by_cases hlt : k < l.length
    · obtain ⟨a, rfl, hc⟩ := iv_at HS.out hlt
      have HD := Lib.hid (show l.drop k = l[k] :: l.drop (k + 1) from List.drop_eq_getElem_cons hlt)
      generalize l[k] = y at *
      have hi : (k : Int) < (l.length : Int) := by omega
      by_cases e : y = x
      · subst e
        have HT := Lib.hid (show inL l y = true by rw [HC.out, HD.out]; simp)
        go_wp2_with fail
        go_ret
        exact ⟨by rw [HT.out]; rfl, rfl⟩
      · have e1 : (y == x) = false := beq_eq_false_iff_ne.2 e
        have HT := Lib.hid (show inL l x = (l.drop (k + 1)).contains x by
          rw [HC.out, HD.out, List.contains_cons, beq_eq_false_iff_ne.2 (fun h => e h.symm)]; rfl)
        clear e
        go_wp2_with fail
        go_round
        case rel => exact ⟨k + 1, by omega, by go_num, HT⟩
        case measure => simp [intOf]; omega
    · have HT := Lib.hid (show inL l x = false by rw [HC.out, List.drop_eq_nil_of_le (by omega)]; rfl)
      go_wp2_with fail
      go_ret
      exact ⟨by rw [HT.out]; rfl, rfl⟩

/-! The chapter's example. -/
theorem one_i {w : World} {g : Nat} {n : Int} (h : Bk w g 3 #[.int .i64 n]) : Holds w (some ⟨g, 0, none⟩) 1 (ivs [n]) :=
  ⟨rfl, fun k hk => by
    obtain rfl : k = 0 := by omega
    exact ⟨_, rfl, h.lt, h.cell 0⟩⟩
theorem two_i {w : World} {g : Nat} {n m : Int} (h : Bk w g 3 #[.int .i64 n, .int .i64 m]) : Holds w (some ⟨g, 0, none⟩) 2 (ivs [n, m]) :=
  ⟨rfl, fun k hk => by
    rcases (show k = 0 ∨ k = 1 by omega) with rfl | rfl
    · exact ⟨_, rfl, h.lt, h.cell 0⟩
    · exact ⟨_, rfl, h.lt, by simpa [Addr.add] using h.cell 1⟩⟩

set_option maxRecDepth 100000 in
theorem awake10 (w : World) : Calls Try.prog 33 #[] w fun e w' => e = .returned (.bool true) ∧ Kept w w' := by
  obtain ⟨vs, hv⟩ : ∃ vs, eachP ((4 : Nat) : Int) false (fun _ => false) [1] = .ok vs := ⟨_, rfl⟩
  have hfl := eachP_fl hv
  have HV := Lib.hid hv
  have HC : Hid (cnt vs 2048 = 1) := by
    unfold Hid
    have h0 : ∀ m, cnt (fun i => if ([1] : List Int).contains (i : Int) then !false else false) (2 + m) = 1 := by
      intro m
      induction m with
      | zero => rfl
      | succ m ih => rw [← Nat.add_assoc, cnt, ih]; simp; omega
    have h1 : vs = fun i : Nat => if ([1] : List Int).contains (i : Int) then !false else false := funext hfl
    rw [h1]
    exact h0 2046
  have HT : Hid (takenL vs 4 2 = [0, 2]) := by
    unfold Hid
    have h1 : vs = fun i : Nat => if ([1] : List Int).contains (i : Int) then !false else false := funext hfl
    rw [h1]; rfl
  clear hfl hv
  go_enter Try.func33, Try.ntmps33
  go_wp2_with fail
  refine (room_new 4 _ (by decide) (by decide)).mono ?_
  rintro e w1 ⟨rfl, hr, hk⟩
  have HR := Lib.hid hr
  have HK := Lib.hid hk
  have hgl := hr.bits.lt
  clear hr hk
  go_wp2_with fail
  have HH := Lib.hid (one_i (Bk.new w1 3 #[.int .i64 1]))
  have HR1 := Lib.hid (HR.out.kept (Kept.refl.alloc (.cells #[.int .i64 1] 3)))
  refine (room_useN w.heap.size 4 1 (fun _ => false) _ 1 [1] _ HR1.out (by decide) rfl HH.out (by decide)).mono ?_
  rintro e w2 ⟨rfl, hbt, hok, _⟩
  have HR2 := Lib.hid (hok vs HV.out)
  have HK2 := Lib.hid (hbt.kept (HK.out.alloc (.cells #[.int .i64 1] 3)) (Nat.le_refl _))
  clear hbt hok
  rw [HV.out, show errP (.ok vs) = 0 from rfl]
  go_wp2_with fail
  refine (room_lowest w.heap.size 4 2 vs _ HR2.out (by decide) (by rw [HC.out]; decide)).mono ?_
  rintro e w3 ⟨A, c, rfl, ho, hk⟩
  have HH3 := Lib.hid (show Holds w3 A 2 (ivs [0, 2]) by
    have := Holds.own ho
    rwa [show (freeL vs 4).take 2 = [0, 2] from HT.out] at this)
  have HK3 := Lib.hid (HK2.out.then hk)
  clear ho hk
  go_wp2_with fail
  have HB := Lib.hid (two_i (Bk.new w3 3 #[.int .i64 0, .int .i64 2]))
  refine (plain_ints A _ c 2 2 [0, 2] _ rfl (HH3.out.kept (Kept.refl.alloc _)) HB.out (by decide)).mono ?_
  rintro e w4 ⟨rfl, hk4⟩
  have HK4 := Lib.hid ((HK3.out.alloc (.cells #[.int .i64 0, .int .i64 2] 3)).then hk4)
  clear hk4
  go_wp2_with fail
  go_ret
  exact ⟨rfl, HK4.out⟩

end Go.Proofs.Ytlnbnoedcmjelaa
