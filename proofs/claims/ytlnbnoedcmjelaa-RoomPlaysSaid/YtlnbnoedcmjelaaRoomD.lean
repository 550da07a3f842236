/- Layer 10 (room): a room in memory; pages used and freed, all or none. -/
import Derived.Test.YtlnbnoedcmjelaaRoomC
import Derived.Lib.Builder
namespace Go.Proofs.Ytlnbnoedcmjelaa
open Go.RowKit Room

theorem Try.roomSize : (Try.prog.info? 83).map (·.size) = some 34 := by kernel_rfl
theorem Try.marksSize : (Try.prog.info? 81).map (·.size) = some 32 := by kernel_rfl

/-- A room of so many pages, these in use. -/
structure Rm (w : World) (g : Nat) (n : Nat) (us : Nat → Bool) : Prop where
  self : w.cell? ⟨g, 0, none⟩ = some (.pointer (some ⟨g, 0, none⟩))
  size : w.cell? ⟨g, 1, none⟩ = some (.int .i64 n)
  bits : Bits w g 2 us
theorem Rm.kept {w w' : World} {g n : Nat} {us : Nat → Bool} (h : Rm w g n us) (hk : Kept w w') : Rm w' g n us :=
  ⟨(hk.cells _ _ h.bits.lt).trans h.self, (hk.cells _ _ h.bits.lt).trans h.size, h.bits.kept hk⟩
theorem Rm.btn {w w' : World} {g n b : Nat} {us : Nat → Bool} (h : Rm w g n us) (k : Btn w w' b) (hne : g ≠ b) : Rm w' g n us :=
  ⟨((btn_cell k (a := ⟨g, 0, none⟩) h.bits.lt hne).1).trans h.self, ((btn_cell k (a := ⟨g, 1, none⟩) h.bits.lt hne).1).trans h.size, h.bits.btn k hne⟩

set_option maxRecDepth 100000 in
theorem room_made {g n : Nat} {us : Nat → Bool} (w : World) (h : Rm w g n us) :
    Calls Try.prog 65 #[.pointer (some ⟨g, 0, none⟩)] w fun e w' => e = .returned (.bool true) ∧ w = w' := by
  have s0 := h.self
  obtain ⟨j, hj, hjs⟩ := Option.map_eq_some_iff.1 Try.roomSize
  have r1 := run_eql_ptr_same w ⟨g, 0, none⟩ Try.underlying63 hj
  clear h
  go_enter Try.func65, Try.ntmps65
  go_wp2_with fail
  go_ret
  exact ⟨rfl, rfl⟩

/-- No call made it: there is none, or it is a bare one. -/
inductive Nob (w : World) : Value → Prop
  | none : Nob w (.pointer none)
  | bare {g : Nat} (h : w.cell? ⟨g, 0, none⟩ = some (.pointer Option.none)) (hl : g < w.heap.size) : Nob w (.pointer (some ⟨g, 0, Option.none⟩))
theorem Nob.kept {w w' : World} {v : Value} (h : Nob w v) (hk : Kept w w') : Nob w' v := by
  cases h with
  | none => exact .none
  | bare h hl => exact .bare ((hk.cells _ _ hl).trans h) (Nat.lt_of_lt_of_le hl hk.size)

set_option maxRecDepth 100000 in
theorem nob_made {v : Value} (w : World) (h : Nob w v) :
    Calls Try.prog 65 #[v] w fun e w' => e = .returned (.bool false) ∧ w = w' := by
  cases h with
  | none =>
    go_enter Try.func65, Try.ntmps65
    go_wp2_with fail
    go_ret
    exact ⟨rfl, rfl⟩
  | @bare g h hl =>
    have r1 : (binOp .eql 63 (.pointer none) (.pointer (some ⟨g, 0, none⟩))).run Try.prog w = .ok (.bool false) w := by
      have h : ∀ d : Nat, (Op.equalIn (d + 1) 63 (.pointer none) (.pointer (some ⟨g, 0, none⟩))).run Try.prog w = .ok false w := fun d => by
        simp [Op.equalIn, run_underlying Try.underlying63]
      simp only [binOp]
      simp [Op.equal, Op.maxDepth, h 9999]
    go_enter Try.func65, Try.ntmps65
    go_wp2_with fail
    go_ret
    exact ⟨rfl, rfl⟩

abbrev newCs (g n : Nat) : Array Value := #[.pointer (some ⟨g, 0, none⟩), .int .i64 n, .int .u64 0, .int .u64 0, .int .u64 0, .int .u64 0, .int .u64 0, .int .u64 0, .int .u64 0, .int .u64 0, .int .u64 0, .int .u64 0, .int .u64 0, .int .u64 0, .int .u64 0, .int .u64 0, .int .u64 0, .int .u64 0, .int .u64 0, .int .u64 0, .int .u64 0, .int .u64 0, .int .u64 0, .int .u64 0, .int .u64 0, .int .u64 0, .int .u64 0, .int .u64 0, .int .u64 0, .int .u64 0, .int .u64 0, .int .u64 0, .int .u64 0, .int .u64 0]
theorem newCs_list (g n : Nat) : newCs g n = (.pointer (some ⟨g, 0, none⟩) :: .int .i64 n :: List.replicate 32 (.int .u64 0)).toArray := rfl
theorem new_rm (w : World) (n : Nat) : Rm (w.alloc (.cells (newCs w.heap.size n) 83)) w.heap.size n (fun _ => false) := by
  have hb := Bk.new w 83 (newCs w.heap.size n)
  have hl := newCs_list w.heap.size n
  generalize newCs w.heap.size n = cs at *
  subst hl
  refine ⟨by rw [hb.cell]; rfl, by rw [hb.cell]; rfl, ⟨hb.lt, fun j hj => ?_, fun j _ => hb.free _⟩⟩
  rw [hb.cell, word_none, show 2 + j = j + 1 + 1 by omega, List.getElem?_toArray, List.getElem?_cons_succ, List.getElem?_cons_succ, List.getElem?_replicate, if_pos hj]
  rfl

set_option maxRecDepth 100000 in
theorem room_new (n : Nat) (w : World) (h1 : 1 ≤ n) (h2 : n ≤ 2047) :
    Calls Try.prog 34 #[.int .i64 n] w fun e w' => e = .returned (.tuple #[.pointer (some ⟨w.heap.size, 0, none⟩), .int .i64 0]) ∧ Rm w' w.heap.size n (fun _ => false) ∧ Kept w w' := by
  go_enter Try.func34, Try.ntmps34
  go_wp2_with fail
  go_ret2
  exact ⟨rfl, new_rm w n, Kept.refl.alloc _⟩

set_option maxRecDepth 100000 in
theorem room_new_no (n : Int) (w : World) (h : n < 1 ∨ 2047 < n) :
    Calls Try.prog 34 #[.int .i64 n] w fun e w' => e = .returned (.tuple #[.pointer none, .int .i64 2]) ∧ w = w' := by
  rcases h with h | h
  · go_enter Try.func34, Try.ntmps34
    go_wp2_with fail
    go_ret2
    exact ⟨rfl, rfl⟩
  · have h' : ¬ n < 1 := by omega
    go_enter Try.func34, Try.ntmps34
    go_wp2_with fail
    go_ret2
    exact ⟨rfl, rfl⟩

theorem Btn.cells (g : Nat) : ∀ (vs : List Value) (o : Nat) (w : World), Btn w (w.setCells g o vs) g
  | [], _, _ => Btn.refl _ g
  | v :: r, o, _ => (Btn.set g o v).then (Btn.cells g r (o + 1) _)
theorem Rm.put {w : World} {g n : Nat} {us : Nat → Bool} (h : Rm w g n us) (vs : Nat → Bool) : Rm (w.setCells g 2 (wds vs)) g n vs := by
  refine ⟨?_, ?_, ⟨?_, fun j hj => ?_, fun j hj => ?_⟩⟩
  · rw [World.cell?_setCells_out g (wds vs) 2 w _ (fun _ _ => .inl (by show 0 < 2; omega))]; exact h.self
  · rw [World.cell?_setCells_out g (wds vs) 2 w _ (fun _ _ => .inl (by show 1 < 2; omega))]; exact h.size
  · exact Nat.lt_of_lt_of_le h.bits.lt (Btn.cells g (wds vs) 2 w).size
  · rw [World.cell?_setCells_in g (wds vs) 2 w (fun i hi => by rw [wds_len] at hi; rw [h.bits.at' i hi]; rfl) j (by rw [wds_len]; exact hj)]
    have := wds_at vs hj
    rw [List.getElem?_eq_getElem (by rw [wds_len]; exact hj)] at this
    exact this
  · rw [World.frozen?_setCells]; exact h.bits.free j hj
theorem new_bits (w : World) (us : Nat → Bool) (z : Array Value) : Bits ((w.alloc (.cells z 81)).setRow w.heap.size (wds us).toArray) w.heap.size 0 us := by
  have hb := (Bk.new w 81 z).row (wds us).toArray
  refine ⟨hb.lt, fun j hj => ?_, fun j _ => hb.free _⟩
  rw [hb.cell, Nat.zero_add]
  simpa using wds_at us hj

abbrev z32 : Array Value := #[.int .u64 0, .int .u64 0, .int .u64 0, .int .u64 0, .int .u64 0, .int .u64 0, .int .u64 0, .int .u64 0, .int .u64 0, .int .u64 0, .int .u64 0, .int .u64 0, .int .u64 0, .int .u64 0, .int .u64 0, .int .u64 0, .int .u64 0, .int .u64 0, .int .u64 0, .int .u64 0, .int .u64 0, .int .u64 0, .int .u64 0, .int .u64 0, .int .u64 0, .int .u64 0, .int .u64 0, .int .u64 0, .int .u64 0, .int .u64 0, .int .u64 0, .int .u64 0]
theorem wds_size (us : Nat → Bool) : (wds us).toArray.size = 32 := by rw [List.size_toArray, wds_len]

/-- How Use and Free end. -/
def UseE (g n : Nat) (must : Bool) (us : Nat → Bool) (l : List Int) (w : World) (e : Ending) (w' : World) : Prop :=
  e = .returned (.int .i64 (errP (eachP n must us l))) ∧ Btn w w' g ∧ (∀ us', eachP n must us l = .ok us' → Rm w' g n us') ∧ (∀ x, eachP n must us l = .error x → Kept w w')
theorem errP_pos {n : Int} {must : Bool} : ∀ {us : Nat → Bool} {l : List Int} {x : Int}, eachP n must us l = .error x → x ≠ 0
  | us, [], x, h => by cases h
  | us, y :: t, x, h => by
    unfold eachP at h
    split at h
    · injection h with h; omega
    · split at h
      · exact errP_pos h
      · injection h with h; subst h; cases must <;> decide

set_option maxRecDepth 100000 in
set_option maxHeartbeats 1000000 in
theorem room_use (g n : Nat) (us : Nat → Bool) (A : Option Addr) (c : Nat) (l : List Int) (w : World) (h : Rm w g n us) (hn : n ≤ 2047)
    (hs : Holds w A l.length (ivs l)) (hl : l.length ≤ 9223372036854775807) :
    Calls Try.prog 36 #[.pointer (some ⟨g, 0, none⟩), .slice A l.length c] w (UseE g n false us l w) := by
  have hmf : ∀ (fn : Fn) (first cap : Array Value) (w : World), (Instr.makeFunc fn first cap).run Try.prog w = .ok (.func fn first cap) w := fun _ _ _ _ => rfl
  have H := Lib.hid h
  have HS := Lib.hid hs
  have HB0 := Lib.hid (Bk.new w 81 z32)
  have HN := Lib.hid (show ∀ a, A = some a → l.length ≠ 0 → a.block ≠ w.heap.size from fun a e h0 => by
    obtain ⟨a', v, e', hl', _⟩ := hs.get (k := 0) (by omega)
    rw [e] at e'; injection e' with e'; subst e'; omega)
  clear h hs
  go_enter Try.func36, Try.ntmps36
  go_wp2_with fail
  refine (room_made _ H.out).mono ?_
  rintro e w1 ⟨rfl, rfl⟩
  go_wp2_with (first
    | refine wpList_load_mid rfl 81 _ rfl g 2 rfl (wds us) _ H.out.bits.range Try.underlying81 rfl (Try.marksSize.trans (congrArg some (wds_len us).symm)) ?_
    | refine wl_store 81 (wds us).toArray rfl _ _ rfl rfl rfl HB0.out (Try.marksSize.trans (congrArg some (wds_size us).symm)) (wds_size us).symm (all_oneCell_toArray (wds_one us)) ?_)
  have hk1 : Kept w ((w.alloc (.cells z32 81)).setRow w.heap.size (wds us).toArray) := (Kept.refl.alloc _).row (Nat.le_refl _) _
  have hb1 := new_bits w us z32
  generalize (w.alloc (.cells z32 81)).setRow w.heap.size (wds us).toArray = W1 at *
  have HR1 := Lib.hid (H.out.kept hk1)
  have HS1 := Lib.hid (HS.out.kept hk1)
  have HK1 := Lib.hid hk1
  have HBB := Lib.hid hb1
  have hgl := H.out.bits.lt
  clear hk1 hb1 HB0
  obtain ⟨b, hbb⟩ : ∃ b, w.heap.size = b := ⟨_, rfl⟩
  have HBN := Lib.hid hbb
  rw [hbb] at HBB hgl HN ⊢
  clear hbb
  refine (room_each g b n false us A c l W1 HR1.out.size hgl (by omega) HBB.out HS1.out HN.out hl).mono ?_
  rintro e w2 ⟨hbt, rfl, hbits⟩
  have HT := Lib.hid hbt
  have HR2 := Lib.hid (HR1.out.btn hbt (by omega))
  have HK2 := Lib.hid (show Kept w w2 from hbt.kept HK1.out (by rw [HBN.out]; exact Nat.le_refl _))
  clear hbt
  rcases hp : eachP n false us l with x | vs
  · have HX := Lib.hid (errP_pos hp)
    have HP := Lib.hid hp
    clear hbits hp
    rw [show errP (.error x) = x from rfl]
    have hx1 := beq_eq_false_iff_ne.2 HX.out
    have hx2 := bne_iff_ne.2 HX.out
    go_wp2_with fail
    go_ret
    refine ⟨?_, .of_kept HK2.out g, fun us' h => ?_, fun y _ => HK2.out⟩
    · rw [HP.out]; rfl
    · rw [HP.out] at h; cases h
  · have HV := Lib.hid (hbits vs hp)
    have HP := Lib.hid hp
    have HQ1 := Lib.hid (HR2.out.put vs)
    have HQ2 := Lib.hid (show Rm (w2.setCells g 2 (wds vs).toArray.toList) g n vs by rw [List.toList_toArray]; exact HQ1.out)
    have HTH := Lib.hid (show w2.there g 2 (wds vs).toArray.size by rw [wds_size]; exact HR2.out.bits.there)
    clear hbits hp
    rw [show errP (.ok vs) = 0 from rfl]
    go_wp2_with (first
      | refine wpList_load_mid rfl 81 _ rfl b 0 rfl (wds vs) _ HV.out.range Try.underlying81 rfl (Try.marksSize.trans (congrArg some (wds_len vs).symm)) ?_
      | refine wpList_store_mid rfl 81 _ _ rfl g 2 (wds vs).toArray rfl rfl HTH.out (Try.marksSize.trans (congrArg some (wds_size vs).symm)) (all_oneCell_toArray (wds_one vs)) ?_)
    go_ret
    refine ⟨?_, (Btn.of_kept HK2.out g).then (Btn.cells g _ 2 _), fun us' h => ?_, fun y h => ?_⟩
    · rw [HP.out]; rfl
    · rw [HP.out] at h; rw [← Except.ok.inj h]; with_reducible (first | exact HQ1.out | exact HQ2.out)
    · rw [HP.out] at h; cases h

set_option maxRecDepth 100000 in
set_option maxHeartbeats 1000000 in
theorem room_free (g n : Nat) (us : Nat → Bool) (A : Option Addr) (c : Nat) (l : List Int) (w : World) (h : Rm w g n us) (hn : n ≤ 2047)
    (hs : Holds w A l.length (ivs l)) (hl : l.length ≤ 9223372036854775807) :
    Calls Try.prog 38 #[.pointer (some ⟨g, 0, none⟩), .slice A l.length c] w (UseE g n true us l w) := by
  have hmf : ∀ (fn : Fn) (first cap : Array Value) (w : World), (Instr.makeFunc fn first cap).run Try.prog w = .ok (.func fn first cap) w := fun _ _ _ _ => rfl
  have H := Lib.hid h
  have HS := Lib.hid hs
  have HB0 := Lib.hid (Bk.new w 81 z32)
  have HN := Lib.hid (show ∀ a, A = some a → l.length ≠ 0 → a.block ≠ w.heap.size from fun a e h0 => by
    obtain ⟨a', v, e', hl', _⟩ := hs.get (k := 0) (by omega)
    rw [e] at e'; injection e' with e'; subst e'; omega)
  clear h hs
  go_enter Try.func38, Try.ntmps38
  go_wp2_with fail
  refine (room_made _ H.out).mono ?_
  rintro e w1 ⟨rfl, rfl⟩
  go_wp2_with (first
    | refine wpList_load_mid rfl 81 _ rfl g 2 rfl (wds us) _ H.out.bits.range Try.underlying81 rfl (Try.marksSize.trans (congrArg some (wds_len us).symm)) ?_
    | refine wl_store 81 (wds us).toArray rfl _ _ rfl rfl rfl HB0.out (Try.marksSize.trans (congrArg some (wds_size us).symm)) (wds_size us).symm (all_oneCell_toArray (wds_one us)) ?_)
  have hk1 : Kept w ((w.alloc (.cells z32 81)).setRow w.heap.size (wds us).toArray) := (Kept.refl.alloc _).row (Nat.le_refl _) _
  have hb1 := new_bits w us z32
  generalize (w.alloc (.cells z32 81)).setRow w.heap.size (wds us).toArray = W1 at *
  have HR1 := Lib.hid (H.out.kept hk1)
  have HS1 := Lib.hid (HS.out.kept hk1)
  have HK1 := Lib.hid hk1
  have HBB := Lib.hid hb1
  have hgl := H.out.bits.lt
  clear hk1 hb1 HB0
  obtain ⟨b, hbb⟩ : ∃ b, w.heap.size = b := ⟨_, rfl⟩
  have HBN := Lib.hid hbb
  rw [hbb] at HBB hgl HN ⊢
  clear hbb
  refine (room_each g b n true us A c l W1 HR1.out.size hgl (by omega) HBB.out HS1.out HN.out hl).mono ?_
  rintro e w2 ⟨hbt, rfl, hbits⟩
  have HT := Lib.hid hbt
  have HR2 := Lib.hid (HR1.out.btn hbt (by omega))
  have HK2 := Lib.hid (show Kept w w2 from hbt.kept HK1.out (by rw [HBN.out]; exact Nat.le_refl _))
  clear hbt
  rcases hp : eachP n true us l with x | vs
  · have HX := Lib.hid (errP_pos hp)
    have HP := Lib.hid hp
    clear hbits hp
    rw [show errP (.error x) = x from rfl]
    have hx1 := beq_eq_false_iff_ne.2 HX.out
    have hx2 := bne_iff_ne.2 HX.out
    go_wp2_with fail
    go_ret
    refine ⟨?_, .of_kept HK2.out g, fun us' h => ?_, fun y _ => HK2.out⟩
    · rw [HP.out]; rfl
    · rw [HP.out] at h; cases h
  · have HV := Lib.hid (hbits vs hp)
    have HP := Lib.hid hp
    have HQ1 := Lib.hid (HR2.out.put vs)
    have HQ2 := Lib.hid (show Rm (w2.setCells g 2 (wds vs).toArray.toList) g n vs by rw [List.toList_toArray]; exact HQ1.out)
    have HTH := Lib.hid (show w2.there g 2 (wds vs).toArray.size by rw [wds_size]; exact HR2.out.bits.there)
    clear hbits hp
    rw [show errP (.ok vs) = 0 from rfl]
    go_wp2_with (first
      | refine wpList_load_mid rfl 81 _ rfl b 0 rfl (wds vs) _ HV.out.range Try.underlying81 rfl (Try.marksSize.trans (congrArg some (wds_len vs).symm)) ?_
      | refine wpList_store_mid rfl 81 _ _ rfl g 2 (wds vs).toArray rfl rfl HTH.out (Try.marksSize.trans (congrArg some (wds_size vs).symm)) (all_oneCell_toArray (wds_one vs)) ?_)
    go_ret
    refine ⟨?_, (Btn.of_kept HK2.out g).then (Btn.cells g _ 2 _), fun us' h => ?_, fun y h => ?_⟩
    · rw [HP.out]; rfl
    · rw [HP.out] at h; rw [← Except.ok.inj h]; with_reducible (first | exact HQ1.out | exact HQ2.out)
    · rw [HP.out] at h; cases h

theorem room_useN (g n m : Nat) (us : Nat → Bool) (A : Option Addr) (c : Nat) (l : List Int) (w : World) (h : Rm w g n us) (hn : n ≤ 2047) (hm : l.length = m)
    (hs : Holds w A m (ivs l)) (hl : m ≤ 9223372036854775807) :
    Calls Try.prog 36 #[.pointer (some ⟨g, 0, none⟩), .slice A m c] w (UseE g n false us l w) := by
  subst hm; exact room_use g n us A c l w h hn hs hl
theorem room_freeN (g n m : Nat) (us : Nat → Bool) (A : Option Addr) (c : Nat) (l : List Int) (w : World) (h : Rm w g n us) (hn : n ≤ 2047) (hm : l.length = m)
    (hs : Holds w A m (ivs l)) (hl : m ≤ 9223372036854775807) :
    Calls Try.prog 38 #[.pointer (some ⟨g, 0, none⟩), .slice A m c] w (UseE g n true us l w) := by
  subst hm; exact room_free g n us A c l w h hn hs hl

end Go.Proofs.Ytlnbnoedcmjelaa
