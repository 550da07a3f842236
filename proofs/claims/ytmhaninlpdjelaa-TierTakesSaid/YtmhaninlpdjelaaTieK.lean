/- Layer 15 (tier): the law TierTakes: its three ways. -/
import Derived.Test.YtmhaninlpdjelaaTieI
namespace Go.Proofs.Ytmhaninlpdjelaa
open Go.RowKit Num

set_option maxRecDepth 100000 in
theorem tierTakes_walk (S : ByteArray) (x : Int) (w : World) (hx : In64 x) :
    Calls Try.prog 4 #[.string S, .int .i64 x] w fun e w' => e = .returned (.bool true) ∧ Kept w w' := by
  by_cases hs : S.size ≤ 2000
  · rcases hq : tierP S 0 x with y | ⟨o, a'⟩
    · obtain ⟨hy, he⟩ := (tierP_S (S := S) (a := 0) (x := x)).2 y hq
      rcases hr : tierS S 0 0 x with ⟨a2, e2, u⟩
      rw [hr] at he
      have he' : e2 = y := he
      subst he'
      have hul : u.terms.length ≤ 100000 ∧ u.up.length ≤ 100000 := tierS_small hr
      refine tierTakes_gen S x w hs hx noTr u e2 e2 e2 a2 ?_ hr (by unfold endE wantE; rw [if_neg hy]) ?_ hul (.inl ⟨hy, rfl, rfl⟩)
      · rintro e w' ⟨t, A, c, B, d, E, h1, h2, h3, hm⟩
        rw [hq] at hm
        obtain ⟨_, rfl, rfl⟩ := hm
        exact ⟨A, c, B, d, h1, h2, h3⟩
      · rintro v n w1 Z w2 ⟨_, ⟨t, a, h1, _⟩ | ⟨z, h1, _, rfl, hb⟩⟩
        · rw [hq] at h1; cases h1
        · rw [hq] at h1; injection h1 with h1
          subst h1
          exact ⟨rfl, noTr, ⟨none, 0, none, 0, hb, ⟨by simp [svs], .inl ⟨rfl, rfl⟩⟩, ⟨by simp [ivs], .inl ⟨rfl, rfl⟩⟩⟩, fun h => absurd h hy⟩
    · have hr := (tierP_S (S := S) (a := 0) (x := x)).1 o a' hq
      obtain ⟨_, g2, g3, g4, g5⟩ := tierP_take (Nat.zero_le _) hq
      have hul : o.terms.length ≤ 100000 ∧ o.up.length ≤ 100000 := tierS_small hr
      have h4 : ∀ v n w1 Z w2, TierY S x v n w1 Z w2 → allE Z = 0 ∧ ∃ o', TrAt w2 (n + 4) v o' ∧ ((0 : Int) = 0 → o' = o) := by
        rintro v n w1 Z w2 ⟨_, ⟨t, a, h1, rfl, hb⟩ | ⟨z, h1, _⟩⟩
        · rw [hq] at h1; injection h1 with h1; injection h1 with h1 _
          subst h1
          exact ⟨rfl, o, hb, fun _ => rfl⟩
        · rw [hq] at h1; cases h1
      by_cases hsz : a' = S.size
      · subst hsz
        refine tierTakes_gen S x w hs hx o o 0 0 0 S.size ?_ hr (by unfold endE wantE; simp) h4 hul (.inr ⟨rfl, rfl, rfl, rfl, g2, tierP_put hq, fun n hn => ?_⟩)
        · rintro e w' ⟨t, A, c, B, d, E, h1, h2, h3, hm⟩
          rw [hq] at hm
          simp only [] at hm
          rw [if_pos trivial] at hm
          obtain ⟨rfl, rfl⟩ := hm
          exact ⟨A, c, B, d, h1, h2, h3⟩
        · have := g5 n hn
          have := hx.2
          exact ⟨by omega, by omega⟩
      · refine tierTakes_gen S x w hs hx noTr o 3 0 3 a' ?_ hr (by unfold endE wantE; simp [hsz]) h4 hul (.inl ⟨by decide, rfl, rfl⟩)
        rintro e w' ⟨t, A, c, B, d, E, h1, h2, h3, hm⟩
        rw [hq] at hm
        simp only [] at hm
        rw [if_neg hsz] at hm
        obtain ⟨rfl, rfl⟩ := hm
        exact ⟨A, c, B, d, h1, h2, h3⟩
  · have hg' : (2000 : Int) < (S.size : Int) := by omega
    go_enter Try.func4, Try.ntmps4
    go_wp2_with fail
    refine (awake15 _).mono ?_
    rintro e w1 ⟨rfl, hk⟩
    go_wp2_with fail
    go_ret
    exact ⟨rfl, (Kept.refl.alloc _).then hk⟩

end Go.Proofs.Ytmhaninlpdjelaa
