/- Layer 1 (num): the numbers of bytes: the walks, and the law of rows. -/
import Derived.Test.YtflgjcajfefamaaNumR
namespace Go.Proofs.Ytflgjcajfefamaa
open Go.RowKit Num

theorem Try.info_u64 : (Try.prog.info? 22).map (fun i => (i.zero, i.size, i.bytes)) = some (some (.int .u64 0), 1, 8) := by kernel_rfl

/-- What Rows tells of bytes: the numbers whose bytes they are, in new memory; or that there are none. -/
def RowsTold (l : List UInt8) (w : World) (e : Ending) (w' : World) : Prop :=
  Kept w w' ∧ ((∃ acc A c, l = rowB acc ∧ (∀ n ∈ acc, U64 n) ∧ acc.length ≤ l.length ∧ e = .returned (.tuple #[.slice A acc.length c, .bool true]) ∧ Holds w' A acc.length (nvs acc)) ∨
    ((∀ xs, (∀ n ∈ xs, U64 n) → l ≠ rowB xs) ∧ e = .returned (.tuple #[.slice none 0 0, .bool false])))

theorem none_left {l c : List UInt8} {acc : List Nat} (ha : ∀ n ∈ acc, U64 n) (h : l = rowB acc ++ c) (hc : c ≠ []) (ht : tk c = none) : ∀ xs, (∀ n ∈ xs, U64 n) → l ≠ rowB xs := by
  intro xs hx e
  obtain ⟨r, _, e'⟩ := rowB_rest acc xs c ha hx (by rw [← e, h])
  cases r with
  | nil => exact hc e'
  | cons x r =>
    have := tk_pt (hx x (by subst_vars; simp)) (rowB r)
    rw [e'] at ht
    have h2 : rowB (x :: r) = pt x ++ rowB r := rfl
    rw [h2, this] at ht
    cases ht

def strLen : Value → Nat | .string s => s.size | _ => 0
theorem cut_to (s : ByteArray) (k : Nat) (hk : k ≤ s.size) : (s.extract k s.size).data.toList = s.data.toList.drop k ∧ (s.extract k s.size).size = s.size - k := by
  constructor
  · rw [Lib.extract_data]
    rw [List.take_of_length_le]
    rw [List.length_drop, Array.length_toList]; exact Nat.le_refl _
  · rw [ByteArray.size_extract]; omega

set_option maxHeartbeats 400000 in
theorem num_rows (s : ByteArray) (w : World) (hs : s.size ≤ 10000) :
    Calls Try.prog 25 #[.string s] w (RowsTold s.data.toList w) := by
  go_enter Try.func25, Try.ntmps25
  go_wp2_with fail
  go_loopw [0, 4] (fun o v wr => ∃ (t : ByteArray) (acc : List Nat), o = .string t ∧ t.size ≤ s.size ∧ Hid (s.data.toList = rowB acc ++ t.data.toList) ∧ Hid (∀ n ∈ acc, U64 n) ∧
      wr.ownsRow w.heap.size 22 1 v acc.length (nvs acc) ∧ Kept w wr) (fun o _ _ => strLen o)
  case atStart => exact ⟨s, [], rfl, Nat.le_refl _, rfl, by unfold Hid; simp, ⟨rfl, .inl ⟨rfl, rfl⟩⟩, Kept.refl⟩
  case round =>
    obtain ⟨t, acc, rfl, hts, HL, HA, ho, hkw⟩ := hrel
    have hz := hkw.size
    have hal : acc.length ≤ 10000 := by
      have h1 := congrArg List.length HL.out
      rw [List.length_append, Array.length_toList] at h1
      have h2 := (rowB_len acc).2
      have h3 : s.data.size = s.size := rfl
      omega
    by_cases h0 : t.size = 0
    · have e : t.data.toList = [] := List.eq_nil_of_length_eq_zero (by rw [Array.length_toList]; exact h0)
      have he : t.toList.isEmpty = true := by rw [Lib.toList_data, e]; rfl
      have HE := Lib.hid e
      obtain ⟨A, c, rfl⟩ := owns_form ho
      have HO := Lib.hid (Holds.own ho)
      clear e ho h0
      go_wp2_with fail
      go_ret2
      refine ⟨hkw, .inl ⟨acc, A, c, by rw [HL.out, HE.out, List.append_nil], HA.out, ?_, rfl, HO.out⟩⟩
      rw [HL.out, List.length_append]; have := (rowB_len acc).2; omega
    · have hne : t.data.toList ≠ [] := fun e => h0 (by have := congrArg List.length e; rw [Array.length_toList] at this; exact this)
      have he : t.toList.isEmpty = false := by rw [Lib.toList_data]; cases hd : t.data.toList with | nil => exact absurd hd hne | cons _ _ => rfl
      have HN := Lib.hid hne
      clear hne h0
      go_wp2_with fail
      refine (num_take t _ (by omega)).mono ?_
      rintro e w1 ⟨rfl, hk1⟩
      rcases ht : tk t.data.toList with _ | ⟨n, k⟩
      · have HT := Lib.hid (none_left HA.out HL.out HN.out ht)
        clear ht
        simp only [tkV]
        go_wp2_with fail
        go_ret2
        exact ⟨hkw.then hk1, .inr ⟨HT.out, rfl⟩⟩
      · obtain ⟨p1, p2, p3, p4⟩ := pt_tk ht
        have hr := sz_range n
        have hk9 : k ≤ t.size := by rw [Array.length_toList] at p4; exact p4
        have hk1' : 1 ≤ k := by omega
        obtain ⟨q1, q2⟩ := cut_to t k hk9
        have HL2 : Hid (s.data.toList = rowB (acc ++ [n]) ++ (t.extract k t.size).data.toList) := by
          unfold Hid
          rw [rowB_snoc, q1, p1, List.append_assoc, List.take_append_drop]
          exact HL.out
        have HA2 : Hid (∀ m ∈ acc ++ [n], U64 m) := fun m hm => by
          rcases List.mem_append.1 hm with h | h
          · exact HA.out m h
          · rw [List.mem_singleton.1 h]; exact p3
        have HQ := Lib.hid q2
        have ho1 := owns_kept ho hk1
        have hz1 := hk1.size
        clear ht p1 p2 p4 q1 q2 ho hr
        simp only [tkV]
        go_wp2_with (at_builtin; refine app1 rfl _ _ 37 rfl w.heap.size 22 (.int .u64 0) 8 Try.underlying37 Try.info_u64 rfl _ _ _ rfl ho1 (.int .u64 n) rfl rfl ?c1 ?c2 ?c3 ?_)
        case c1 => unfold maxLen; omega
        case c2 => omega
        case c3 => omega
        intro v' w2 hown hgrow _
        have HO2 : Hid (w2.ownsRow w.heap.size 22 1 v' (acc ++ [n]).length (nvs (acc ++ [n]))) := by
          unfold Hid; simpa [nvs] using hown
        have HK2 := Lib.hid ((hkw.then hk1).grown ho1 (Nat.le_refl _) hgrow)
        clear hown hgrow ho1
        go_wp2_with fail
        go_roundw
        case rel => exact ⟨_, acc ++ [n], rfl, by rw [HQ.out]; omega, HL2, HA2, HO2.out, HK2.out⟩
        case measure => simp [strLen, HQ.out]; omega

set_option maxHeartbeats 400000 in
theorem ref_rows (s : ByteArray) (w : World) (hs : s.size ≤ 10000) :
    Calls Try.prog 26 #[.string s] w (RowsTold s.data.toList w) := by
  go_enter Try.func26, Try.ntmps26
  go_wp2_with fail
  go_loopw [4, 5] (fun v o wr => ∃ (at' : Nat) (acc : List Nat), o = .int .i64 at' ∧ at' ≤ s.size ∧ Hid (s.data.toList = rowB acc ++ s.data.toList.drop at') ∧ Hid (∀ n ∈ acc, U64 n) ∧
      wr.ownsRow w.heap.size 22 1 v acc.length (nvs acc) ∧ Kept w wr) (fun _ o _ => s.size - (intOf o).toNat)
  case atStart => exact ⟨0, [], rfl, Nat.zero_le _, rfl, by unfold Hid; simp, ⟨rfl, .inl ⟨rfl, rfl⟩⟩, Kept.refl⟩
  case round =>
    obtain ⟨at', acc, rfl, hts, HL, HA, ho, hkw⟩ := hrel
    have hz := hkw.size
    have hal : acc.length ≤ 10000 := by
      have h1 := congrArg List.length HL.out
      rw [List.length_append, Array.length_toList] at h1
      have h2 := (rowB_len acc).2
      have h3 : s.data.size = s.size := rfl
      omega
    by_cases h0 : at' < s.size
    · obtain ⟨q1, q2⟩ := cut_to s at' hts
      have hne : s.data.toList.drop at' ≠ [] := fun e => by
        have := congrArg List.length e
        rw [List.length_drop, Array.length_toList] at this
        have h3 : s.data.size = s.size := rfl
        simp at this
        omega
      have HN := Lib.hid hne
      have Q1 := Lib.hid q1
      have Q2 := Lib.hid q2
      clear hne q1 q2
      go_wp2_with fail
      refine (ref_take _ _ (by rw [Q2.out]; omega)).mono ?_
      rintro e w1 ⟨rfl, hk1⟩
      rw [Q1.out]
      rcases ht : tk (s.data.toList.drop at') with _ | ⟨n, k⟩
      · have HT := Lib.hid (none_left HA.out HL.out HN.out ht)
        clear ht
        simp only [tkV]
        go_wp2_with fail
        go_ret2
        exact ⟨hkw.then hk1, .inr ⟨HT.out, rfl⟩⟩
      · obtain ⟨p1, p2, p3, p4⟩ := pt_tk ht
        have hr := sz_range n
        have hk9 : at' + k ≤ s.size := by
          rw [List.length_drop, Array.length_toList] at p4
          have h3 : s.data.size = s.size := rfl
          omega
        have hk1' : 1 ≤ k := by omega
        have HL2 : Hid (s.data.toList = rowB (acc ++ [n]) ++ s.data.toList.drop (at' + k)) := by
          unfold Hid
          rw [rowB_snoc, p1, List.append_assoc, ← List.drop_drop, List.take_append_drop]
          exact HL.out
        have HA2 : Hid (∀ m ∈ acc ++ [n], U64 m) := fun m hm => by
          rcases List.mem_append.1 hm with h | h
          · exact HA.out m h
          · rw [List.mem_singleton.1 h]; exact p3
        have ho1 := owns_kept ho hk1
        have hz1 := hk1.size
        clear ht p1 p2 p4 ho hr
        simp only [tkV]
        go_wp2_with (at_builtin; refine app1 rfl _ _ 37 rfl w.heap.size 22 (.int .u64 0) 8 Try.underlying37 Try.info_u64 rfl _ _ _ rfl ho1 (.int .u64 n) rfl rfl ?c1 ?c2 ?c3 ?_)
        case c1 => unfold maxLen; omega
        case c2 => omega
        case c3 => omega
        intro v' w2 hown hgrow _
        have HO2 : Hid (w2.ownsRow w.heap.size 22 1 v' (acc ++ [n]).length (nvs (acc ++ [n]))) := by
          unfold Hid; simpa [nvs] using hown
        have HK2 := Lib.hid ((hkw.then hk1).grown ho1 (Nat.le_refl _) hgrow)
        clear hown hgrow ho1
        go_wp2_with fail
        go_roundw
        case rel => exact ⟨at' + k, acc ++ [n], by go_num, hk9, HL2, HA2, HO2.out, HK2.out⟩
        case measure => simp [intOf]; omega
    · have e : s.data.toList.drop at' = [] := List.drop_of_length_le (by rw [Array.length_toList]; have h3 : s.data.size = s.size := rfl; omega)
      have HE := Lib.hid e
      obtain ⟨A, c, rfl⟩ := owns_form ho
      have HO := Lib.hid (Holds.own ho)
      clear e ho
      go_wp2_with fail
      go_ret2
      refine ⟨hkw, .inl ⟨acc, A, c, by have := HL.out; rw [HE.out, List.append_nil] at this; exact this, HA.out, ?_, rfl, HO.out⟩⟩
      rw [HL.out, List.length_append]; have := (rowB_len acc).2; omega

/-- Two slices that hold the same numbers are the same. -/
theorem plain_nums (A B : Option Addr) (c d n : Nat) (xs : List Nat) (w : World) (hn : xs.length = n) (ha : Holds w A n (nvs xs)) (hb : Holds w B n (nvs xs)) (hl : n ≤ 100000) :
    Calls Try.prog 29 #[.slice A n c, .slice B n d] w fun e w' => e = .returned (.bool true) ∧ Kept w w' := by
  subst hn
  have HA := Lib.hid ha
  have HB := Lib.hid hb
  clear ha hb
  go_enter Try.func29, Try.ntmps29
  go_wp2_with fail
  go_loopw [13] (fun i wr => ∃ k : Nat, k ≤ xs.length ∧ i = .int .i64 k ∧ Kept w wr) (fun i _ => xs.length - (intOf i).toNat)
  case atStart => exact ⟨0, Nat.zero_le _, rfl, Kept.refl⟩
  case round =>
    obtain ⟨k, hk, rfl, hkw⟩ := hrel
    by_cases hlt : k < xs.length
    · obtain ⟨a, rfl, hc⟩ := nat_at (HA.out.kept hkw) hlt
      obtain ⟨b, rfl, hd⟩ := nat_at (HB.out.kept hkw) hlt
      generalize xs[k] = x at *
      have hi : (k : Int) < (xs.length : Int) := by omega
      go_wp2_with fail
      go_quiet (fail)
      go_wp2_with fail
      go_roundw
      case rel => exact ⟨k + 1, by omega, by go_num, hkw.drewN _⟩
      case measure => simp [intOf]; omega
    · go_wp2_with fail
      go_ret
      exact ⟨rfl, hkw⟩

/-- Rows leads back from Row. -/
theorem rows_back (xs : List Nat) (w : World) (hx : ∀ n ∈ xs, U64 n) (hl : xs.length ≤ 200) :
    Calls Try.prog 25 #[.string ⟨(rowB xs).toArray⟩] w fun e w' => ∃ A c, e = .returned (.tuple #[.slice A xs.length c, .bool true]) ∧ Holds w' A xs.length (nvs xs) ∧ Kept w w' := by
  have hlen := (rowB_len xs).1
  refine (num_rows ⟨(rowB xs).toArray⟩ w (by show (rowB xs).length ≤ _; omega)).mono ?_
  rintro e w' ⟨hk, ⟨acc, A, c, h1, h2, _, rfl, h4⟩ | ⟨h1, _⟩⟩
  · obtain rfl := rowB_inj hx h2 h1
    exact ⟨A, c, rfl, h4, hk⟩
  · exact absurd rfl (h1 xs hx)

set_option maxHeartbeats 1000000 in
theorem numRows_walk (A : Option Addr) (c n : Nat) (xs : List Nat) (s : ByteArray) (w : World) (hn : xs.length = n) (hx : ∀ n ∈ xs, U64 n) (hs : Holds w A n (nvs xs)) (hl : n ≤ 9223372036854775807) (hz : s.size ≤ 9223372036854775807) :
    Calls Try.prog 7 #[.slice A n c, .string s] w fun e w' => e = .returned (.bool true) ∧ Kept w w' := by
  subst hn
  by_cases hg : 200 < xs.length
  · go_enter Try.func7, Try.ntmps7
    go_wp2_with fail
    refine (awake1 _).mono ?_
    rintro e w1 ⟨rfl, hk⟩
    go_wp2_with fail
    go_ret
    exact ⟨rfl, hk⟩
  by_cases hg2 : 1000 < s.size
  · go_enter Try.func7, Try.ntmps7
    go_wp2_with fail
    refine (awake1 _).mono ?_
    rintro e w1 ⟨rfl, hk⟩
    go_wp2_with fail
    go_ret
    exact ⟨rfl, hk⟩
  have HX := Lib.hid hx
  have HS := Lib.hid hs
  have hl2 : xs.length ≤ 200 := by omega
  clear hx hs
  go_enter Try.func7, Try.ntmps7
  go_wp2_with fail
  refine (num_rows s _ (by omega)).mono ?_
  rintro e w1 ⟨hk1, ⟨acc, A1, c1, h1, h2, h3, rfl, h4⟩ | ⟨h1, rfl⟩⟩
  · have H1 := Lib.hid h1
    have H2 := Lib.hid h2
    have H4 := Lib.hid h4
    have h3' : acc.length ≤ 1000 := by
      have h6 := Array.length_toList (xs := s.data)
      have h5 : s.data.size = s.size := rfl
      omega
    clear h1 h2 h3 h4
    go_wp2_with fail
    refine (ref_rows s _ (by omega)).mono ?_
    rintro e w2 ⟨hk2, ⟨acc2, A2, c2, g1, g2, g3, rfl, g4⟩ | ⟨g1, _⟩⟩
    · obtain rfl : acc = acc2 := rowB_inj H2.out g2 (by rw [← H1.out, g1])
      have G4 := Lib.hid g4
      clear g1 g2 g3 g4
      go_wp2_with fail
      refine (num_row A c xs _ HX.out (HS.out.kept (hk1.then hk2)) hl2).mono ?_
      rintro e w3 ⟨rfl, hk3⟩
      go_wp2_with fail
      refine (rows_back xs _ HX.out hl2).mono ?_
      rintro e w4 ⟨A4, c4, rfl, b4, hk4⟩
      have B4 := Lib.hid b4
      clear b4
      go_wp2_with fail
      refine (num_row A c xs _ HX.out (HS.out.kept (((hk1.then hk2).then hk3).then hk4)) hl2).mono ?_
      rintro e w5 ⟨rfl, hk5⟩
      go_wp2_with fail
      refine (ref_row A c xs _ HX.out (HS.out.kept ((((hk1.then hk2).then hk3).then hk4).then hk5)) hl2).mono ?_
      rintro e w6 ⟨rfl, hk6⟩
      go_wp2_with fail
      refine (plain_nums A1 A2 c1 c2 _ acc _ rfl (H4.out.kept ((((hk2.then hk3).then hk4).then hk5).then hk6)) (G4.out.kept (((hk3.then hk4).then hk5).then hk6)) (by omega)).mono ?_
      rintro e w7 ⟨rfl, hk7⟩
      go_wp2_with fail
      refine (plain_nums A4 A c4 c _ xs _ rfl (B4.out.kept ((hk5.then hk6).then hk7)) (HS.out.kept ((((((hk1.then hk2).then hk3).then hk4).then hk5).then hk6).then hk7)) (by omega)).mono ?_
      rintro e w8 ⟨rfl, hk8⟩
      go_wp2_with fail
      refine (awake1 _).mono ?_
      rintro e w9 ⟨rfl, hk9⟩
      go_wp2_with fail
      go_ret
      exact ⟨rfl, (((((((hk1.then hk2).then hk3).then hk4).then hk5).then hk6).then hk7).then hk8).then hk9⟩
    · exact absurd H1.out (g1 acc H2.out)
  · have H1 := Lib.hid h1
    clear h1
    go_wp2_with fail
    refine (ref_rows s _ (by omega)).mono ?_
    rintro e w2 ⟨hk2, ⟨acc2, A2, c2, g1, g2, g3, rfl, g4⟩ | ⟨_, rfl⟩⟩
    · exact absurd g1 (H1.out acc2 g2)
    · go_wp2_with fail
      refine (num_row A c xs _ HX.out (HS.out.kept (hk1.then hk2)) hl2).mono ?_
      rintro e w3 ⟨rfl, hk3⟩
      go_wp2_with fail
      refine (rows_back xs _ HX.out hl2).mono ?_
      rintro e w4 ⟨A4, c4, rfl, b4, hk4⟩
      have B4 := Lib.hid b4
      clear b4
      go_wp2_with fail
      refine (num_row A c xs _ HX.out (HS.out.kept (((hk1.then hk2).then hk3).then hk4)) hl2).mono ?_
      rintro e w5 ⟨rfl, hk5⟩
      go_wp2_with fail
      refine (ref_row A c xs _ HX.out (HS.out.kept ((((hk1.then hk2).then hk3).then hk4).then hk5)) hl2).mono ?_
      rintro e w6 ⟨rfl, hk6⟩
      go_wp2_with fail
      refine (plain_nums none none 0 0 0 [] _ rfl Holds.nil Holds.nil (by omega)).mono ?_
      rintro e w7 ⟨rfl, hk7⟩
      go_wp2_with fail
      refine (plain_nums A4 A c4 c _ xs _ rfl (B4.out.kept ((hk5.then hk6).then hk7)) (HS.out.kept ((((((hk1.then hk2).then hk3).then hk4).then hk5).then hk6).then hk7)) (by omega)).mono ?_
      rintro e w8 ⟨rfl, hk8⟩
      go_wp2_with fail
      refine (awake1 _).mono ?_
      rintro e w9 ⟨rfl, hk9⟩
      go_wp2_with fail
      go_ret
      exact ⟨rfl, (((((((hk1.then hk2).then hk3).then hk4).then hk5).then hk6).then hk7).then hk8).then hk9⟩

theorem nats_of : ∀ xs : List Int, (∀ x ∈ xs, (0 ≤ x ∧ x ≤ 18446744073709551615)) → ∃ ys : List Nat, xs.map (Value.int .u64) = nvs ys ∧ ys.length = xs.length ∧ ∀ n ∈ ys, U64 n
  | [], _ => ⟨[], rfl, rfl, by simp⟩
  | x :: xs, h => by
    obtain ⟨ys, h1, h2, h3⟩ := nats_of xs (fun y hy => h y (List.mem_cons_of_mem _ hy))
    obtain ⟨m, rfl, hm⟩ := u64_of (h x (List.mem_cons_self ..))
    refine ⟨m :: ys, by simp [nvs, h1], by simp [h2], fun n hn => ?_⟩
    rcases List.mem_cons.1 hn with rfl | hn
    · exact hm
    · exact h3 n hn
theorem numRows_law (A : Option Addr) (c n : Nat) (xs : List Int) (s : ByteArray) (w : World) (hn : xs.length = n) (hx : ∀ x ∈ xs, (0 ≤ x ∧ x ≤ 18446744073709551615)) (hs : Holds w A n (xs.map (.int .u64))) (hl : n ≤ maxLen) (hz : s.size ≤ maxLen) :
    Calls Try.prog 7 #[.slice A n c, .string s] w fun e w' => e = .returned (.bool true) ∧ Kept w w' := by
  obtain ⟨ys, h1, h2, h3⟩ := nats_of xs hx
  rw [h1] at hs
  exact numRows_walk A c n ys s w (by omega) h3 hs hl hz

end Go.Proofs.Ytflgjcajfefamaa
