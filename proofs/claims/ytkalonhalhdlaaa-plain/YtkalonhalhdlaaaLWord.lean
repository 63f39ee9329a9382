/-
  What a hunter tells of frames as they stand on the line (each, once, in order), and of a frame of which one bit on the line is another one (never itself).
-/
import Derived.Test.YtkalonhalhdlaaaLSim
namespace Go.Proofs.Ytkalonhalhdlaaa

theorem feedI_append (s : IH) (a b : List Bool) : feedI s (a ++ b) = ((feedI (feedI s a).1 b).1, (feedI s a).2 ++ (feedI (feedI s a).1 b).2) := by
  induction a generalizing s with
  | nil => simp [feedI]
  | cons x r ih => simp only [List.cons_append, feedI]; rw [ih]; simp
theorem feedH_append (s : HS) (a b : List Bool) : feedH s (a ++ b) = ((feedH (feedH s a).1 b).1, (feedH s a).2 ++ (feedH (feedH s a).1 b).2) := by
  induction a generalizing s with
  | nil => simp [feedH]
  | cons x r ih => simp only [List.cons_append, feedH]; rw [ih]; simp

theorem sim_fresh : Sim fresh ⟨false, 0, []⟩ := ⟨rfl, rfl, by simp, by simp [fresh], fun h => by simp at h, fun _ => rfl⟩

theorem flag_clean : feedI ⟨true, 0, []⟩ flagL = (⟨true, 0, []⟩, []) := by rfl
theorem flag_off : feedI ⟨false, 0, []⟩ flagL = (⟨true, 0, []⟩, []) := by rfl

theorem stuff_feed (D : List Bool) (c : Nat) (has : List Bool) (hc : c ≤ 4) : ∃ c', c' ≤ 4 ∧ feedI ⟨true, c, has⟩ (stuffL c D) = (⟨true, c', has ++ D⟩, []) := by
  induction D generalizing c has with
  | nil => exact ⟨c, hc, by simp [stuffL, feedI]⟩
  | cons b r ih =>
    cases b
    · obtain ⟨c', h1, h2⟩ := ih 0 (has ++ [false]) (by omega)
      refine ⟨c', h1, ?_⟩
      have e : hearI ⟨true, c, has⟩ false = (⟨true, 0, has ++ [false]⟩, none) := by
        unfold hearI
        simp only [Bool.false_eq_true, if_false]
        rw [if_neg (by omega), if_neg (by omega)]
        simp
      simp only [stuffL, feedI, e, h2]
      simp
    · by_cases h5 : c + 1 = 5
      · obtain ⟨c', h1, h2⟩ := ih 0 (has ++ [true]) (by omega)
        refine ⟨c', h1, ?_⟩
        have e1 : hearI ⟨true, c, has⟩ true = (⟨true, 5, has ++ [true]⟩, none) := by
          unfold hearI
          simp only [if_true]
          rw [if_neg (by omega), if_neg (by omega)]
          simp [h5]
        have e2 : hearI ⟨true, 5, has ++ [true]⟩ false = (⟨true, 0, has ++ [true]⟩, none) := by simp [hearI]
        simp only [stuffL, if_pos h5, feedI, e1, e2, h2]
        simp
      · obtain ⟨c', h1, h2⟩ := ih (c + 1) (has ++ [true]) (by omega)
        refine ⟨c', h1, ?_⟩
        have e1 : hearI ⟨true, c, has⟩ true = (⟨true, c + 1, has ++ [true]⟩, none) := by
          unfold hearI
          simp only [if_true]
          rw [if_neg (by omega), if_neg (by omega)]
          have : c + 1 ≤ 5 := by omega
          simp [this]
        simp only [stuffL, if_neg h5, feedI, e1, h2]
        simp

theorem flag_ends (c : Nat) (D : List Bool) (hc : c ≤ 4) (hD : D ≠ []) : feedI ⟨true, c, D⟩ flagL = (⟨true, 0, []⟩, [foundL D]) := by
  have e : hearI ⟨true, c, D⟩ false = (⟨true, 0, D ++ [false]⟩, none) := by
    unfold hearI
    simp only [Bool.false_eq_true, if_false]
    rw [if_neg (by omega), if_neg (by omega)]
    simp
  have hl : 0 < D.length := List.length_pos_iff.2 hD
  have h6 : 6 < D.length + 1 + 1 + 1 + 1 + 1 + 1 := by omega
  have ht : D.length + 1 + 1 + 1 + 1 + 1 + 1 - 6 = D.length := by omega
  simp only [flagL, feedI, e]
  simp [hearI, hl, ht]

theorem frame_told (f : List UInt8) (h1 : 2 ≤ f.length) (h2 : f.length ≤ 64) : feedI ⟨true, 0, []⟩ (frameL f ++ flagL) = (⟨true, 0, []⟩, [(1, f)]) := by
  obtain ⟨c', hc, hf⟩ := stuff_feed (plainL f ++ plainL (sumB f)) 0 [] (by omega)
  rw [feedI_append]
  unfold frameL
  rw [hf, List.nil_append]
  have hne : plainL f ++ plainL (sumB f) ≠ [] := by
    intro h
    have := congrArg List.length h
    simp [plainL_length] at this
    omega
  rw [flag_ends c' _ hc hne, found_frame f h1 h2]
  rfl

theorem frames_told (fs : List (List UInt8)) (h : ∀ f ∈ fs, 2 ≤ f.length ∧ f.length ≤ 64) : feedI ⟨true, 0, []⟩ (framesL fs) = (⟨true, 0, []⟩, fs.map fun f => (1, f)) := by
  induction fs with
  | nil => rfl
  | cons f r ih =>
    have hf := h f (by simp)
    rw [framesL, feedI_append, frame_told f hf.1 hf.2, ih fun g hg => h g (by simp [hg])]
    simp

theorem wire_told (h : HS) (s : IH) (k : Sim h s) (hs : s = ⟨true, 0, []⟩ ∨ s = ⟨false, 0, []⟩) (fs : List (List UInt8)) (hv : ∀ f ∈ fs, 2 ≤ f.length ∧ f.length ≤ 64) : (feedH h (wireL fs)).2 = fs.map fun f => (1, f) := by
  rw [(sim_feed h s _ k).2, wireL, feedI_append]
  rcases hs with rfl | rfl
  · rw [flag_clean, frames_told fs hv]; rfl
  · rw [flag_off, frames_told fs hv]; rfl

/-- Behind a nought and six ones, a nought, a nought, six ones and a nought, it is as after a flag. -/
theorem ones6 (s : IH) : (feedI s [false, true, true, true, true, true, true]).1.c = 6 := by
  have h0 : (hearI s false).1.c = 0 := by
    unfold hearI
    simp only [Bool.false_eq_true, if_false]
    split
    · rfl
    · split <;> rfl
  have up : ∀ t : IH, t.c < 6 → (hearI t true).1.c = t.c + 1 := by
    intro t ht
    unfold hearI
    simp only [if_true]
    rw [if_neg (by omega), if_neg (by omega)]
  simp only [feedI]
  generalize (hearI s false).1 = s0 at h0
  have h1 := up s0 (by omega)
  generalize (hearI s0 true).1 = s1 at h1
  have h2 := up s1 (by omega)
  generalize (hearI s1 true).1 = s2 at h2
  have h3 := up s2 (by omega)
  generalize (hearI s2 true).1 = s3 at h3
  have h4 := up s3 (by omega)
  generalize (hearI s3 true).1 = s4 at h4
  have h5 := up s4 (by omega)
  generalize (hearI s4 true).1 = s5 at h5
  have h6 := up s5 (by omega)
  omega
theorem hears_flag (s : IH) (h : s.c = 6) : (feedI s [false, false, true, true, true, true, true, true, false]).1 = ⟨true, 0, []⟩ := by
  have e : (hearI s false).1 = ⟨true, 0, []⟩ := by unfold hearI; simp [h]
  have := flag_clean
  simp only [feedI, flagL] at this ⊢
  rw [e]
  exact congrArg Prod.fst this

/-- The count of ones behind bits that were written so. -/
def stC : Nat → List Bool → Nat
  | n, [] => n
  | _, false :: r => stC 0 r
  | n, true :: r => if n + 1 = 5 then stC 0 r else stC (n + 1) r
theorem stuffL_append (n : Nat) (a b : List Bool) : stuffL n (a ++ b) = stuffL n a ++ stuffL (stC n a) b := by
  induction a generalizing n with
  | nil => rfl
  | cons x r ih =>
    cases x
    · simp [stuffL, stC, ih]
    · simp only [List.cons_append, stuffL, stC]
      split <;> simp [ih]
theorem stC_append (n : Nat) (a b : List Bool) : stC n (a ++ b) = stC (stC n a) b := by
  induction a generalizing n with
  | nil => rfl
  | cons x r ih =>
    cases x
    · simp [stC, ih]
    · simp only [List.cons_append, stC]
      split <;> simp [ih]
theorem stuffL_ge (n : Nat) (l : List Bool) : l.length ≤ (stuffL n l).length := by
  induction l generalizing n with
  | nil => simp [stuffL]
  | cons x r ih =>
    cases x
    · have := ih 0; simp [stuffL]; omega
    · have h0 := ih 0
      have h1 := ih (n + 1)
      simp only [stuffL]
      split <;> simp <;> omega
theorem stuffL_gt (n : Nat) (l : List Bool) (x : Bool) (hx : x = true) (h : stC n (l ++ [x]) = 0) : l.length + 2 ≤ (stuffL n (l ++ [x])).length := by
  subst hx
  rw [stC_append] at h
  rw [stuffL_append]
  have h1 := stuffL_ge n l
  simp only [stC] at h
  split at h
  · rename_i h5
    simp [stuffL, h5]
    omega
  · omega

/-- Bits that a hunter that is on has heard since its flag. -/
def Heard (cons : List Bool) (s : IH) : Prop :=
  (s.c ≤ 4 ∧ cons = stuffL 0 s.has ∧ stC 0 s.has = s.c) ∨
  (s.c = 5 ∧ cons ++ [false] = stuffL 0 s.has ∧ stC 0 s.has = 0 ∧ ∃ y, s.has = y ++ [true]) ∨
  (s.c = 6 ∧ ∃ x, cons = x ++ [true] ∧ x ++ [false] = stuffL 0 s.has ∧ stC 0 s.has = 0 ∧ ∃ y, s.has = y ++ [true])
def HeardOf (proc : List Bool) (s : IH) : Prop := s.on = true → ∃ pre cons, proc = pre ++ cons ∧ Heard cons s

theorem heard_step (proc : List Bool) (s : IH) (b : Bool) (h : HeardOf proc s) (_h7 : s.c = 7 → s.on = false) : HeardOf (proc ++ [b]) (hearI s b).1 ∧ ((hearI s b).1.c = 7 → (hearI s b).1.on = false) := by
  cases b
  · unfold hearI
    simp only [Bool.false_eq_true, if_false]
    by_cases c6 : s.c = 6
    · rw [if_pos c6]
      exact ⟨fun _ => ⟨proc ++ [false], [], by simp, Or.inl ⟨by simp, rfl, rfl⟩⟩, fun hh => by simp at hh⟩
    rw [if_neg c6]
    by_cases c5 : s.c = 5
    · rw [if_pos c5]
      refine ⟨fun hon => ?_, fun hh => by simp at hh⟩
      obtain ⟨pre, cons, hp, hh⟩ := h hon
      rcases hh with ⟨h1, _⟩ | ⟨_, h2, h3, _⟩ | ⟨h1, _⟩
      · omega
      · exact ⟨pre, cons ++ [false], by rw [hp]; simp, Or.inl ⟨by simp, h2, h3⟩⟩
      · omega
    · rw [if_neg c5]
      refine ⟨fun hon => ?_, fun hh => by simp at hh⟩
      have hon : s.on = true := hon
      rw [if_pos hon]
      obtain ⟨pre, cons, hp, hh⟩ := h hon
      rcases hh with ⟨h1, h2, h3⟩ | ⟨h1, _⟩ | ⟨h1, _⟩
      · refine ⟨pre, cons ++ [false], by rw [hp]; simp, Or.inl ⟨by simp, ?_, ?_⟩⟩
        · simp only
          rw [stuffL_append, h2]; rfl
        · simp only
          rw [stC_append]; rfl
      · omega
      · omega
  · unfold hearI
    simp only [if_true]
    by_cases c6 : s.c = 6
    · rw [if_pos c6]
      exact ⟨fun hh => by simp at hh, fun _ => rfl⟩
    rw [if_neg c6]
    by_cases c7 : s.c = 7
    · rw [if_pos c7]
      exact ⟨fun hh => by simp at hh, fun _ => rfl⟩
    rw [if_neg c7]
    refine ⟨fun hon => ?_, fun hh => by simp at hh; omega⟩
    have hon : s.on = true := hon
    obtain ⟨pre, cons, hp, hh⟩ := h hon
    rcases hh with ⟨h1, h2, h3⟩ | ⟨h1, h2, h3, h4⟩ | ⟨h1, _⟩
    · have h5 : s.c + 1 ≤ 5 := by omega
      by_cases h6 : s.c + 1 = 5
      · refine ⟨pre, cons ++ [true], by rw [hp]; simp, Or.inr (Or.inl ⟨h6, ?_, ?_, ?_⟩)⟩
        · simp only [if_pos (And.intro hon h5)]
          rw [stuffL_append, h3, ← h2]
          simp [stuffL, h6]
        · simp only [if_pos (And.intro hon h5)]
          rw [stC_append, h3]
          simp [stC, h6]
        · exact ⟨s.has, by simp only [if_pos (And.intro hon h5)]⟩
      · refine ⟨pre, cons ++ [true], by rw [hp]; simp, Or.inl ⟨by simp; omega, ?_, ?_⟩⟩
        · simp only [if_pos (And.intro hon h5)]
          rw [stuffL_append, h3, ← h2]
          simp [stuffL, h6]
        · simp only [if_pos (And.intro hon h5)]
          rw [stC_append, h3]
          simp [stC, h6]
    · have h5 : ¬ (s.on = true ∧ s.c + 1 ≤ 5) := fun q => by omega
      refine ⟨pre, cons ++ [true], by rw [hp]; simp, Or.inr (Or.inr ⟨by simp; omega, cons, rfl, ?_, ?_, ?_⟩)⟩
      · simp only [if_neg h5]; exact h2
      · simp only [if_neg h5]; exact h3
      · simp only [if_neg h5]; exact h4
    · omega

/-- What is told at a bit, if it is the frame f: then so many bits were heard. -/
theorem told_at (proc : List Bool) (s : IH) (b : Bool) (h : HeardOf proc s) (f : List UInt8) (ht : (hearI s b).2 = some (1, f)) :
    b = false ∧ ∃ pre x e, proc = pre ++ x ++ [true] ∧ x ++ [false] = frameL f ++ e ∧ 7 ≤ e.length := by
  cases b
  · refine ⟨rfl, ?_⟩
    unfold hearI at ht
    simp only [Bool.false_eq_true, if_false] at ht
    by_cases c6 : s.c = 6
    · rw [if_pos c6] at ht
      by_cases hq : s.on = true ∧ 6 < s.has.length
      · simp only [if_pos hq, Option.some.injEq] at ht
        have hD := found_only _ _ ht
        obtain ⟨pre, cons, hp, hh⟩ := h hq.1
        rcases hh with ⟨h1, _⟩ | ⟨h1, _⟩ | ⟨_, x, h2, h3, h4, y, h5⟩
        · omega
        · omega
        · have hs : s.has = s.has.take (s.has.length - 6) ++ s.has.drop (s.has.length - 6) := (List.take_append_drop _ _).symm
          have he : ∃ z, s.has.drop (s.has.length - 6) = z ++ [true] ∧ z.length = 5 := by
            refine ⟨(s.has.drop (s.has.length - 6)).dropLast, ?_, by simp; omega⟩
            have hlast : s.has.drop (s.has.length - 6) = y.drop (s.has.length - 6) ++ [true] := by
              have hl : s.has.length = y.length + 1 := by rw [h5]; simp
              rw [hl, h5, List.drop_append_of_le_length (by omega)]
            rw [hlast]; simp
          obtain ⟨z, hz, hzl⟩ := he
          rw [hD, hz] at hs
          refine ⟨pre, x, stuffL (stC 0 (plainL f ++ plainL (sumB f))) (z ++ [true]), by rw [hp, h2]; simp, ?_, ?_⟩
          · rw [h3, hs, stuffL_append]; rfl
          · have := stuffL_gt (stC 0 (plainL f ++ plainL (sumB f))) z true rfl (by rw [← stC_append, ← hs]; exact h4)
            omega
      · simp only [if_neg hq] at ht
        simp at ht
    · rw [if_neg c6] at ht
      split at ht <;> simp at ht
  · unfold hearI at ht
    simp only [if_true] at ht
    split at ht
    · split at ht <;> simp at ht
    · split at ht
      · split at ht <;> simp at ht
      · simp at ht

theorem feed_tells (l : List Bool) (proc : List Bool) (s : IH) (h : HeardOf proc s) (h7 : s.c = 7 → s.on = false) (f : List UInt8) (ht : (1, f) ∈ (feedI s l).2) :
    ∃ pre x e post, proc ++ l = pre ++ x ++ [true, false] ++ post ∧ x ++ [false] = frameL f ++ e ∧ 7 ≤ e.length := by
  induction l generalizing proc s with
  | nil => simp [feedI] at ht
  | cons b r ih =>
    simp only [feedI, List.mem_append, Option.mem_toList] at ht
    rcases ht with ht | ht
    · obtain ⟨hb, pre, x, e, h1, h2, h3⟩ := told_at proc s b h f ht
      subst hb
      exact ⟨pre, x, e, r, by rw [h1]; simp, h2, h3⟩
    · have hst := heard_step proc s b h h7
      obtain ⟨pre, x, e, post, h1, h2, h3⟩ := ih (proc ++ [b]) _ hst.1 hst.2 ht
      exact ⟨pre, x, e, post, by rw [← h1]; simp, h2, h3⟩

/-- Of a frame of which one bit on the line is another one, it is never told as itself. -/
theorem never_itself (f : List UInt8) (m : List Bool) (hl : m.length = (frameL f).length) (hne : m ≠ frameL f) : (1, f) ∉ (feedI ⟨true, 0, []⟩ (m ++ flagL)).2 := by
  intro ht
  obtain ⟨pre, x, e, post, h1, h2, h3⟩ := feed_tells (m ++ flagL) [] ⟨true, 0, []⟩ (fun _ => ⟨[], [], rfl, Or.inl ⟨by simp, rfl, rfl⟩⟩) (by simp) f ht
  rw [List.nil_append] at h1
  have l1 := congrArg List.length h1
  have l2 := congrArg List.length h2
  simp [flagL] at l1 l2
  have hpre : pre = [] := List.length_eq_zero_iff.1 (by omega)
  have hx : x.length = m.length + 6 := by omega
  rw [hpre, List.nil_append] at h1
  apply hne
  have t1 : m = x.take m.length := by
    have := congrArg (List.take m.length) h1
    rw [List.take_left] at this
    exact this.trans (by rw [List.append_assoc, List.take_append_of_le_length (by omega)])
  have t2 : frameL f = x.take m.length := by
    have := congrArg (List.take m.length) h2
    rw [List.take_append_of_le_length (by omega), hl, List.take_left] at this
    rw [hl]
    exact this.symm
  rw [t2, ← t1]

/-- No six ones in a row. -/
def runOk : Nat → List Bool → Prop
  | _, [] => True
  | n, false :: r => runOk 0 r ∧ n = n
  | n, true :: r => n + 1 ≤ 5 ∧ runOk (n + 1) r
theorem stuff_runOk (n : Nat) (l : List Bool) (h : n ≤ 4) : runOk n (stuffL n l) := by
  induction l generalizing n with
  | nil => simp [stuffL, runOk]
  | cons x r ih =>
    cases x
    · exact ⟨ih 0 (by omega), rfl⟩
    · simp only [stuffL]
      split
      · exact ⟨by omega, ih 0 (by omega), rfl⟩
      · exact ⟨by omega, ih (n + 1) (by omega)⟩

end Go.Proofs.Ytkalonhalhdlaaa
