/- Layer 10 (room): how many pages are free; the free ones of the least numbers. -/
import Derived.Test.YtlnbnoedcmjelaaRoomD
namespace Go.Proofs.Ytlnbnoedcmjelaa
open Go.RowKit Room

set_option maxRecDepth 100000 in
theorem room_used (g n : Nat) (i : Int) (us : Nat → Bool) (w : World) (h : Rm w g n us) (hn : n ≤ 2047) :
    Calls Try.prog 43 #[.pointer (some ⟨g, 0, none⟩), .int .i64 i] w fun e w' => e = .returned (.bool (decide (0 ≤ i ∧ i < n) && us i.toNat)) ∧ w = w' := by
  have H := Lib.hid h
  clear h
  by_cases hr : 0 ≤ i ∧ i < n
  · obtain ⟨y, rfl⟩ := Int.eq_ofNat_of_zero_le hr.1
    have HR := Lib.hid (show (decide (0 ≤ (y : Int)) && decide ((y : Int) < n)) = true by simp; omega)
    have HV := Lib.hid (show (decide (0 ≤ (y : Int) ∧ (y : Int) < n) && us (y : Int).toNat) = us y by rw [decide_eq_true hr, Int.toNat_natCast]; rfl)
    clear hr
    go_enter Try.func43, Try.ntmps43
    go_wp2_with fail
    refine (room_made _ H.out).mono ?_
    rintro e w1 ⟨rfl, rfl⟩
    go_wp2_with fail
    refine (room_is g n y _ H.out.size).mono ?_
    rintro e w1 ⟨rfl, rfl⟩
    rw [HR.out]
    go_wp2_with fail
    refine (marks_has g 2 y us _ H.out.bits (by have := HR.out; simp at this; omega)).mono ?_
    rintro e w1 ⟨rfl, rfl⟩
    go_wp2_with fail
    go_ret
    exact ⟨by rw [HV.out]; rfl, rfl⟩
  · have HR := Lib.hid (show (decide (0 ≤ i) && decide (i < (n : Int))) = false by rw [Bool.and_eq_false_iff]; simp; omega)
    have HV := Lib.hid (show (decide (0 ≤ i ∧ i < (n : Int)) && us i.toNat) = false by rw [decide_eq_false hr]; rfl)
    clear hr
    go_enter Try.func43, Try.ntmps43
    go_wp2_with fail
    refine (room_made _ H.out).mono ?_
    rintro e w1 ⟨rfl, rfl⟩
    go_wp2_with fail
    refine (room_is g n i _ H.out.size).mono ?_
    rintro e w1 ⟨rfl, rfl⟩
    rw [HR.out]
    go_wp2_with fail
    go_ret
    exact ⟨by rw [HV.out]; rfl, rfl⟩

theorem cnt_word (us : Nat → Bool) (k : Nat) : cnt us (64 * (k + 1)) = cnt us (64 * k) + cnt (word us k).testBit 64 := by
  rw [show 64 * (k + 1) = 64 * k + 64 by omega, cnt_add]
  congr 1
  exact cnt_congr 64 fun b hb => (word_bit us k b hb).symm

theorem Try.marksArr : Try.prog.underlying 81 = some (.array 32 (Try.prog.elem 81)) := by kernel_rfl
theorem index_word (us : Nat → Bool) (k : Nat) (hk : k < 32) (w : World) : (Instr.index 81 (.agg (wds us).toArray) (.int .i64 k)).run Try.prog w = .ok (.int .u64 (word us k : Nat)) w := by
  have h1 : (0 : Int) ≤ (k : Int) ∧ (k : Int) < ((32 : Nat) : Int) := by omega
  have hat := wds_at us hk
  have hl := wds_len us
  generalize wds us = l at *
  simp [Instr.index, run_underlying Try.marksArr, asIntOf, h1, go_sem, hat]
  intro h; omega

set_option maxRecDepth 100000 in
set_option maxHeartbeats 1000000 in
theorem room_count (g n : Nat) (us : Nat → Bool) (w : World) (h : Rm w g n us) (hn : n ≤ 2047) :
    Calls Try.prog 45 #[.pointer (some ⟨g, 0, none⟩)] w fun e w' => e = .returned (.int .i64 ((n : Int) - cnt us 2048)) ∧ w = w' := by
  have H := Lib.hid h
  have s1 := h.size
  clear h
  go_enter Try.func45, Try.ntmps45
  go_wp2_with fail
  refine (room_made _ H.out).mono ?_
  rintro e w1 ⟨rfl, rfl⟩
  go_wp2_with (refine wpList_load_mid rfl 81 _ rfl g 2 rfl (wds us) _ H.out.bits.range Try.underlying81 rfl (Try.marksSize.trans (congrArg some (wds_len us).symm)) ?_)
  go_loop [3, 17] (fun v i => ∃ k : Nat, k ≤ 32 ∧ i = .int .i64 k ∧ v = .int .i64 ((n : Int) - cnt us (64 * k))) (fun _ i => 32 - (intOf i).toNat)
  case atStart => exact ⟨0, Nat.zero_le _, rfl, by simp [cnt]⟩
  case round =>
    obtain ⟨k, hk, rfl, rfl⟩ := hrel
    by_cases hlt : k < 32
    · have hi : (k : Int) < 32 := by omega
      have hix := index_word us k hlt w
      have HC := Lib.hid (cnt_word us k)
      have hw := word_lt us k
      have hc0 := cnt_le us (64 * k)
      have hc1 := cnt_le (word us k).testBit 64
      generalize word us k = x at *
      go_wp2_with fail
      refine (ones64 x _ hw).mono ?_
      rintro e w2 ⟨rfl, rfl⟩
      go_wp2_with fail
      go_round
      case rel => exact ⟨k + 1, by omega, by go_num, by rw [HC.out]; exact congrArg _ (by omega)⟩
      case measure => simp [intOf]; omega
    · obtain rfl : k = 32 := by omega
      go_wp2_with fail
      go_ret
      exact ⟨rfl, rfl⟩

/-- The free ones ahead of a place. -/
def freeL (us : Nat → Bool) (i : Nat) : List Int := ((List.range i).filter fun k => !us k).map fun k : Nat => (k : Int)
theorem freeL_succ (us : Nat → Bool) (i : Nat) : freeL us (i + 1) = if us i then freeL us i else freeL us i ++ [(i : Int)] := by
  unfold freeL
  rw [List.range_succ, List.filter_append, List.map_append]
  cases h : us i <;> simp [h]
theorem freeL_len (us : Nat → Bool) : ∀ i, (freeL us i).length + cnt us i = i
  | 0 => rfl
  | i + 1 => by
    have h := freeL_len us i
    rw [freeL_succ, cnt]
    cases us i <;> simp <;> omega
theorem freeL_pre (us : Nat → Bool) (i : Nat) : ∀ j, ∃ r, freeL us (i + j) = freeL us i ++ r
  | 0 => ⟨[], by simp⟩
  | j + 1 => by
    obtain ⟨r, hr⟩ := freeL_pre us i j
    rw [← Nat.add_assoc, freeL_succ, hr]
    split
    · exact ⟨r, rfl⟩
    · exact ⟨r ++ [((i + j : Nat) : Int)], by simp⟩
theorem freeL_take (us : Nat → Bool) {i n m : Nat} (h : i ≤ n) (hm : (freeL us i).length = m) : freeL us i = (freeL us n).take m := by
  obtain ⟨r, hr⟩ := freeL_pre us i (n - i)
  rw [show i + (n - i) = n by omega] at hr
  rw [hr, List.take_append_of_le_length (by omega), List.take_of_length_le (by omega)]
theorem cnt_mono (us : Nat → Bool) (a b : Nat) : cnt us a ≤ cnt us (a + b) := by rw [cnt_add]; omega
theorem freeL_mem {us : Nat → Bool} {i : Nat} {x : Int} (h : x ∈ freeL us i) : 0 ≤ x ∧ x < i ∧ us x.toNat = false := by
  unfold freeL at h
  simp only [List.mem_map, List.mem_filter, List.mem_range] at h
  obtain ⟨k, ⟨h1, h2⟩, rfl⟩ := h
  exact ⟨by omega, by omega, by simpa using h2⟩
theorem freeL_nodup (us : Nat → Bool) (i : Nat) : (freeL us i).Nodup := by
  unfold freeL
  exact List.Pairwise.map _ (fun a b h e => h (by omega)) ((List.nodup_range (n := i)).filter _)

theorem owns_len {w : World} {base e n : Nat} {v : Value} {xs : List Value} (h : w.ownsRow base e 1 v n xs) : xs.length = n := by have := h.1; omega

theorem room_countC (g n C : Nat) (us : Nat → Bool) (w : World) (h : Rm w g n us) (hn : n ≤ 2047) (hC : cnt us 2048 = C) :
    Calls Try.prog 45 #[.pointer (some ⟨g, 0, none⟩)] w fun e w' => e = .returned (.int .i64 ((n : Int) - C)) ∧ w = w' := by
  subst hC; exact room_count g n us w h hn

set_option maxRecDepth 100000 in
set_option maxHeartbeats 1000000 in
theorem room_lowest (g n m : Nat) (us : Nat → Bool) (w : World) (h : Rm w g n us) (hn : n ≤ 2047) (hm : m + cnt us 2048 ≤ n) :
    Calls Try.prog 40 #[.pointer (some ⟨g, 0, none⟩), .int .i64 m] w fun e w' => ∃ A c, e = .returned (.tuple #[.slice A m c, .int .i64 0]) ∧
      w'.ownsRow w.heap.size 3 1 (.slice A m c) m (ivs ((freeL us n).take m)) ∧ Kept w w' := by
  have H := Lib.hid h
  have hc := cnt_le us 2048
  have hm' : ¬ (n : Int) - (cnt us 2048 : Nat) < (m : Int) := by omega
  have HFL := Lib.hid (freeL_len us)
  have HCM := Lib.hid (show cnt us n ≤ cnt us 2048 by have := cnt_mono us n (2048 - n); rwa [show n + (2048 - n) = 2048 by omega] at this)
  clear h
  obtain ⟨C, hC⟩ : ∃ C, cnt us 2048 = C := ⟨_, rfl⟩
  have HCC := Lib.hid hC
  rw [hC] at hm hc hm' HCM
  clear hC
  go_enter Try.func40, Try.ntmps40
  go_wp2_with fail
  refine (room_made _ H.out).mono ?_
  rintro e w1 ⟨rfl, rfl⟩
  go_wp2_with fail
  refine (room_countC g n C us _ H.out hn HCC.out).mono ?_
  rintro e w1 ⟨rfl, rfl⟩
  go_wp2_with fail
  go_loopw [6, 7] (fun v i wr => ∃ k : Nat, k ≤ n ∧ i = .int .i64 k ∧ (freeL us k).length ≤ m ∧ Kept w wr ∧ wr.ownsRow w.heap.size 3 1 v (freeL us k).length (ivs (freeL us k))) (fun _ i _ => n - (intOf i).toNat)
  case atStart => exact ⟨0, Nat.zero_le _, rfl, Nat.zero_le _, Kept.refl, ⟨rfl, .inl ⟨rfl, rfl⟩⟩⟩
  case round =>
    obtain ⟨k, hk, rfl, hkm, hkw, ho⟩ := hrel
    obtain ⟨A, c, rfl⟩ := owns_form ho
    have HO := Lib.hid ho
    have HK := Lib.hid hkw
    clear ho hkw
    have HS := Lib.hid (freeL_succ us k)
    have hfl := HFL.out k
    have HT := Lib.hid (fun (e : (freeL us k).length = m) => freeL_take us hk e)
    have HKN := Lib.hid (show k = n → m ≤ (freeL us k).length from fun e => by subst e; have := HCM.out; omega)
    clear hfl
    obtain ⟨L, hL⟩ : ∃ L, freeL us k = L := ⟨_, rfl⟩
    rw [hL] at hkm HO HT HS HKN ⊢
    clear hL
    by_cases hlt : L.length < m
    · have hkn : k < n := by have := HKN.out; omega
      have hl' : (L.length : Int) < (m : Int) := by omega
      obtain ⟨b, hb⟩ : ∃ b, us k = b := ⟨_, rfl⟩
      have HB := Lib.hid hb
      rw [hb] at HS
      clear hb
      have HR := Lib.hid (H.out.bits.kept HK.out)
      have hz := HK.out.size
      go_wp2_with fail
      refine (marks_has g 2 k us _ HR.out (by omega)).mono ?_
      rintro e w2 ⟨rfl, rfl⟩
      rw [HB.out]
      cases b
      · have ho2 := HO.out
        go_wp2_with (at_builtin; refine app1 rfl _ _ 36 rfl w.heap.size 3 (.int .i64 0) 8 Try.underlying36 Try.info_int rfl _ _ _ rfl ho2 (.int .i64 (k : Int)) rfl rfl ?c1 ?c2 ?c3 ?_)
        case c1 => unfold maxLen; omega
        case c2 => omega
        case c3 => omega
        intro v' w6 hown hgrow hat
        have HB6 := Lib.hid (HK.out.grown ho2 (Nat.le_refl _) hgrow)
        have HO6 : Hid (w6.ownsRow w.heap.size 3 1 v' (freeL us (k + 1)).length (ivs (freeL us (k + 1)))) := by
          unfold Hid
          rw [HS.out]
          simpa [ivs] using hown
        have HL6 := Lib.hid (show (freeL us (k + 1)).length ≤ m by rw [HS.out]; simp; omega)
        clear hown hgrow hat ho2
        go_wp2_with fail
        go_roundw
        case rel => exact ⟨k + 1, by omega, by go_num, HL6.out, HB6.out, HO6.out⟩
        case measure => simp [intOf]; omega
      · have HO6 : Hid (wr.ownsRow w.heap.size 3 1 (.slice A L.length c) (freeL us (k + 1)).length (ivs (freeL us (k + 1)))) := by
          unfold Hid
          rw [HS.out]
          exact HO.out
        have HL6 := Lib.hid (show (freeL us (k + 1)).length ≤ m by rw [HS.out]; exact hkm)
        go_wp2_with fail
        go_roundw
        case rel => exact ⟨k + 1, by omega, by go_num, HL6.out, HK.out, HO6.out⟩
        case measure => simp [intOf]; omega
    · have he : L.length = m := by omega
      have HO2 := Lib.hid (show wr.ownsRow w.heap.size 3 1 (.slice A m c) m (ivs ((freeL us n).take m)) by
        have ho := HO.out
        rw [he] at ho
        rw [← HT.out he]; exact ho)
      rw [he]
      clear hlt he
      go_wp2_with fail
      go_ret2
      exact ⟨A, c, rfl, HO2.out, HK.out⟩

end Go.Proofs.Ytlnbnoedcmjelaa
