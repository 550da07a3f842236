/- Layer 4 (take): a Reader outside of its reading. -/
import Derived.Test.YtmhaninlpdjelaaTakeR
namespace Go.Proofs.Ytmhaninlpdjelaa
open Go.RowKit Num

/-- A Reader that reads nothing: nil, one that All did not make, or one whose reading has ended. -/
inductive Out (w : World) : Value → Prop where
  | none : Out w (.pointer none)
  | bare {r : Nat} (h : Bk w r 124 #[.pointer Option.none]) : Out w (pv r)
  | over {r g : Nat} {s : ByteArray} {e : Int} (h : Rd w r g (.pointer Option.none) s e) : Out w (pv r)

set_option maxRecDepth 100000 in
theorem live_out {v : Value} (w : World) (h : Out w v) :
    Calls Try.prog 87 #[v] w fun e w' => e = .returned (.pointer none) ∧ w = w' := by
  rcases h with _ | h | h
  · go_enter Try.func87, Try.ntmps87
    go_wp2_with fail
    go_ret
    exact ⟨rfl, rfl⟩
  · obtain ⟨a1, a2, a3⟩ := h.one
    clear h
    go_enter Try.func87, Try.ntmps87
    go_wp2_with fail
    go_ret
    exact ⟨rfl, rfl⟩
  · rename_i r g s e
    obtain ⟨a1, a2, a3⟩ := h.rd.one
    obtain ⟨b1, b2, b3, b4, b5, b6, b7⟩ := h.ing.three
    have r1 : (binOp .neq 44 (.pointer none) (pv r)).run Try.prog w = .ok (.bool true) w := by
      have h : ∀ d : Nat, (Op.equalIn (d + 1) 44 (.pointer none) (pv r)).run Try.prog w = .ok false w := fun d => by
        simp [Op.equalIn, run_underlying Try.underlying44]
      simp only [binOp]
      simp [Op.equal, Op.maxDepth, h 9999]
    clear h
    go_enter Try.func87, Try.ntmps87
    go_wp2_with fail
    go_ret
    exact ⟨rfl, rfl⟩

theorem num_out {v : Value} (m : Int) (w : World) (h : Out w v) :
    Calls Try.prog 85 #[v, .int .i64 m] w fun e w' => e = .returned (.int .i64 0) ∧ w = w' := by
  have H := Lib.hid h
  clear h
  go_enter Try.func85, Try.ntmps85
  go_wp2_with fail
  refine (live_out _ H.out).mono ?_
  rintro e w1 ⟨rfl, rfl⟩
  go_wp2_with fail
  go_ret
  exact ⟨rfl, rfl⟩
theorem fix_out {v : Value} (m : Int) (w : World) (h : Out w v) :
    Calls Try.prog 25 #[v, .int .i64 m] w fun e w' => e = .returned (.string ByteArray.empty) ∧ w = w' := by
  have H := Lib.hid h
  clear h
  go_enter Try.func25, Try.ntmps25
  go_wp2_with fail
  refine (live_out _ H.out).mono ?_
  rintro e w1 ⟨rfl, rfl⟩
  go_wp2_with fail
  go_ret
  exact ⟨rfl, rfl⟩
theorem text_out {v : Value} (m : Int) (w : World) (h : Out w v) :
    Calls Try.prog 83 #[v, .int .i64 m] w fun e w' => e = .returned (.string ByteArray.empty) ∧ w = w' := by
  have H := Lib.hid h
  clear h
  go_enter Try.func83, Try.ntmps83
  go_wp2_with fail
  refine (num_out m _ H.out).mono ?_
  rintro e w1 ⟨rfl, rfl⟩
  go_wp2_with fail
  refine (fix_out 0 _ H.out).mono ?_
  rintro e w1 ⟨rfl, rfl⟩
  go_wp2_with fail
  go_ret
  exact ⟨rfl, rfl⟩
theorem left_out {v : Value} (w : World) (h : Out w v) :
    Calls Try.prog 26 #[v] w fun e w' => e = .returned (.int .i64 0) ∧ w = w' := by
  have H := Lib.hid h
  clear h
  go_enter Try.func26, Try.ntmps26
  go_wp2_with fail
  refine (live_out _ H.out).mono ?_
  rintro e w1 ⟨rfl, rfl⟩
  go_wp2_with fail
  go_ret
  exact ⟨rfl, rfl⟩
theorem want_out {v : Value} (b : Bool) (e : Int) (w : World) (h : Out w v) :
    Calls Try.prog 86 #[v, .bool b, .int .i64 e] w fun e w' => e = .returned (.tuple #[]) ∧ w = w' := by
  have H := Lib.hid h
  clear h
  go_enter Try.func86, Try.ntmps86
  go_wp2_with fail
  refine (live_out _ H.out).mono ?_
  rintro e w1 ⟨rfl, rfl⟩
  go_wp2_with fail
  go_end0
  exact ⟨rfl, rfl⟩

end Go.Proofs.Ytmhaninlpdjelaa
