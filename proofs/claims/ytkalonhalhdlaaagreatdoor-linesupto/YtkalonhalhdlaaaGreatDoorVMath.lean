import Derived.Test.YtkalonhalhdlaaaGreatDoorLPure
import Derived.Test.YtkalonhalhdlaaaGreatDoorLSum
import Derived.Test.YtkalonhalhdlaaaGreatDoorVRows
/-
  A hunter in the document's words (it keeps all bits that it has), and that the hunter of plain words (LPure) tells the same; what it tells of frames as they stand on the line, and of a line of which one bit is another one.
-/
namespace Go.Proofs.YtkalonhalhdlaaaGreatDoor

/-- The number of bits, the lowest first. -/
def val : List Bool → Nat
  | [] => 0
  | b :: r => (if b then 1 else 0) + 2 * val r
theorem val_append (a b : List Bool) : val (a ++ b) = val a + 2 ^ a.length * val b := by
  induction a with
  | nil => simp [val]
  | cons x r ih =>
    simp only [List.cons_append, val, ih, List.length_cons, Nat.pow_succ]
    rw [Nat.mul_add]
    have : 2 * (2 ^ r.length * val b) = 2 ^ r.length * 2 * val b := by rw [Nat.mul_comm (2 ^ r.length) 2, Nat.mul_assoc]
    omega
theorem val_lt (a : List Bool) : val a < 2 ^ a.length := by
  induction a with
  | nil => simp [val]
  | cons x r ih =>
    simp only [val, List.length_cons, Nat.pow_succ]
    split <;> omega
theorem val_lowBits (n x : Nat) (h : x < 2 ^ n) : val (lowBits n x) = x := by
  induction n generalizing x with
  | zero => simp [lowBits, val]; simp at h; omega
  | succ n ih =>
    have h2 : x / 2 < 2 ^ n := by rw [Nat.pow_succ] at h; omega
    simp only [lowBits, val, ih _ h2]
    rcases Nat.mod_two_eq_zero_or_one x with h' | h' <;> simp [h'] <;> omega

/-- n bytes out of bits. -/
def packL : Nat → List Bool → List UInt8
  | 0, _ => []
  | n + 1, l => UInt8.ofNat (val (l.take 8)) :: packL n (l.drop 8)
theorem packL_length (n : Nat) (l : List Bool) : (packL n l).length = n := by
  induction n generalizing l with
  | zero => rfl
  | succ n ih => simp [packL, ih]
theorem packL_plain (l : List UInt8) (r : List Bool) : packL l.length (plainL l ++ r) = l := by
  induction l with
  | nil => rfl
  | cons x t ih =>
    have h8 := lowBits_length 8 x.toNat
    have hx : x.toNat < 2 ^ 8 := x.toNat_lt
    simp only [List.length_cons, packL, plainL]
    rw [List.append_assoc, List.take_left' h8, List.drop_left' h8, ih, val_lowBits 8 _ hx]
    simp
theorem lowBits_val (l : List Bool) : lowBits l.length (val l) = l := by
  induction l with
  | nil => rfl
  | cons b r ih =>
    simp only [List.length_cons, lowBits, val]
    have h2 : ((if b then 1 else 0) + 2 * val r) / 2 = val r := by split <;> omega
    rw [h2, ih]
    cases b <;> simp <;> omega
theorem plain_pack (n : Nat) (l : List Bool) (h : l.length = 8 * n) : plainL (packL n l) = l := by
  induction n generalizing l with
  | zero => simp at h; simp [packL, plainL, h]
  | succ n ih =>
    simp only [packL, plainL]
    have h8 : (l.take 8).length = 8 := by simp; omega
    have hv := val_lt (l.take 8)
    rw [h8] at hv
    have e : (UInt8.ofNat (val (l.take 8))).toNat = val (l.take 8) := by simp; omega
    rw [e, ih _ (by simp; omega)]
    have := lowBits_val (l.take 8)
    rw [h8] at this
    rw [this, List.take_append_drop]
theorem packL_getD (n : Nat) (l : List Bool) (i : Nat) (h : i < n) : (packL n l).getD i 0 = UInt8.ofNat (val ((l.drop (8 * i)).take 8)) := by
  induction n generalizing l i with
  | zero => omega
  | succ n ih =>
    cases i with
    | zero => simp [packL]
    | succ i =>
      have := ih (l.drop 8) i (by omega)
      simp only [packL, List.getD_cons_succ]
      rw [this, List.drop_drop]
      congr 4
      omega

/-- What bits are, as a frame. -/
def foundL (l : List Bool) : Nat × List UInt8 :=
  if l.length < 32 then (3, [])
  else if l.length % 8 ≠ 0 then (4, [])
  else if 528 < l.length then (6, [])
  else if (packL (l.length / 8) l).drop (l.length / 8 - 2) = sumB ((packL (l.length / 8) l).take (l.length / 8 - 2)) then (1, (packL (l.length / 8) l).take (l.length / 8 - 2)) else (5, [])

theorem found_frame (f : List UInt8) (h1 : 2 ≤ f.length) (h2 : f.length ≤ 64) : foundL (plainL f ++ plainL (sumB f)) = (1, f) := by
  have hl : (plainL f ++ plainL (sumB f)).length = 8 * (f.length + 2) := by
    rw [List.length_append, plainL_length, plainL_length]; simp [sumB]; omega
  have hp : packL (f.length + 2) (plainL f ++ plainL (sumB f)) = f ++ sumB f := by
    have := packL_plain (f ++ sumB f) []
    rw [List.append_nil, plainL_append] at this
    have e : (f ++ sumB f).length = f.length + 2 := by simp [sumB]
    rw [e] at this
    exact this
  have e8 : 8 * (f.length + 2) / 8 = f.length + 2 := by omega
  unfold foundL
  rw [hl, e8, if_neg (by omega), if_neg (by omega), if_neg (by omega), hp]
  simp

theorem found_only (l : List Bool) (f : List UInt8) (h : foundL l = (1, f)) : l = plainL f ++ plainL (sumB f) := by
  unfold foundL at h
  split at h
  · simp at h
  split at h
  · simp at h
  split at h
  · simp at h
  split at h
  · rename_i h1 h2 h3 h4
    simp at h
    have hl : l.length = 8 * (l.length / 8) := by omega
    have hpp := plain_pack (l.length / 8) l hl
    have e : packL (l.length / 8) l = f ++ sumB f := by
      rw [← List.take_append_drop (l.length / 8 - 2) (packL (l.length / 8) l), h4, h]
    rw [← hpp, e, plainL_append]
  · simp at h

/-- A hunter in the document's words; the count goes no further than 7. -/
structure IH where
  on : Bool
  c : Nat
  has : List Bool

def hearI (s : IH) (b : Bool) : IH × Option (Nat × List UInt8) :=
  if b then
    if s.c = 6 then (⟨false, 7, []⟩, if s.on = true ∧ 6 < s.has.length then some (2, []) else none)
    else if s.c = 7 then (⟨false, 7, []⟩, if s.on = true ∧ 6 < s.has.length then some (2, []) else none)
    else (⟨s.on, s.c + 1, if s.on = true ∧ s.c + 1 ≤ 5 then s.has ++ [true] else s.has⟩, none)
  else
    if s.c = 6 then (⟨true, 0, []⟩, if s.on = true ∧ 6 < s.has.length then some (foundL (s.has.take (s.has.length - 6))) else none)
    else if s.c = 5 then (⟨s.on, 0, s.has⟩, none)
    else (⟨s.on, 0, if s.on = true then s.has ++ [false] else s.has⟩, none)
def feedI : IH → List Bool → IH × List (Nat × List UInt8)
  | s, [] => (s, [])
  | s, b :: r => ((feedI (hearI s b).1 r).1, (hearI s b).2.toList ++ (feedI (hearI s b).1 r).2)

def capLen (n : Nat) : Nat := if n < 535 then n else 535 + (n - 535) % 8
/-- The bytes that are held are the first of the bits. -/
def Rep (h : HS) (has : List Bool) : Prop :=
  h.len = capLen has.length ∧ ∀ i, i < 66 → 8 * i ≤ has.length → (h.held.getD i 0).toNat / 2 ^ (8 - min 8 (has.length - 8 * i)) = val ((has.drop (8 * i)).take 8)
def Sim (h : HS) (s : IH) : Prop := h.on = s.on ∧ h.ones = s.c ∧ s.c ≤ 7 ∧ h.held.length = 66 ∧ (s.on = true → Rep h s.has) ∧ (s.on = false → s.has = [])

end Go.Proofs.YtkalonhalhdlaaaGreatDoor

/-
  The hunter of plain words (LPure) tells what the hunter of the document's words (LMath) tells.
-/
namespace Go.Proofs.YtkalonhalhdlaaaGreatDoor

theorem capLen_step (n : Nat) : lenA (capLen n) + 1 = capLen (n + 1) := by
  unfold lenA capLen
  split <;> split <;> split at * <;> omega
theorem capLen_at (n : Nat) (h : n < 528) : lenA (capLen n) = n := by
  unfold lenA capLen
  split <;> split at * <;> omega
theorem capLen_beyond (n : Nat) (h : 528 ≤ n) : ¬ lenA (capLen n) / 8 < 66 := by
  unfold lenA capLen
  split <;> split at * <;> omega

theorem shB_toNat (x : UInt8) (b : Bool) : (shB x b).toNat = x.toNat / 2 + (if b then 128 else 0) := by
  have hx : x.toNat < 256 := x.toNat_lt
  unfold shB
  cases b <;> simp <;> omega

/-- One bit more goes in at the top. -/
theorem push_val (x : Nat) (l : List Bool) (b : Bool) (hl : l.length < 8) (h : x / 2 ^ (8 - l.length) = val l) :
    (x / 2 + (if b then 128 else 0)) / 2 ^ (8 - (l.length + 1)) = val (l ++ [b]) := by
  have e1 : 8 - l.length = (8 - (l.length + 1)) + 1 := by omega
  have e2 : 128 = 2 ^ (8 - (l.length + 1)) * 2 ^ l.length := by
    rw [← Nat.pow_add]
    have : 8 - (l.length + 1) + l.length = 7 := by omega
    rw [this]
  have hp : 0 < 2 ^ (8 - (l.length + 1)) := Nat.pow_pos (by omega)
  rw [e1, Nat.pow_succ, Nat.mul_comm, ← Nat.div_div_eq_div_mul] at h
  rw [val_append]
  cases b
  · rw [show (if false = true then 128 else 0) = 0 from rfl, Nat.add_zero, h]
    simp [val]
  · simp only [if_true, val]
    rw [e2, Nat.add_mul_div_left _ _ hp, h]
    omega

theorem take_more {α : Type} (l : List α) (x : α) (k n : Nat) (h : k + n ≤ l.length) : ((l ++ [x]).drop k).take n = (l.drop k).take n := by
  rw [List.drop_append_of_le_length (by omega), List.take_append_of_le_length (by simp; omega)]

theorem addH_rep (h : HS) (has : List Bool) (b : Bool) (hon : h.on = true) (hh : h.held.length = 66) (r : Rep h has) : Rep (addH h b) (has ++ [b]) ∧ (addH h b).held.length = 66 := by
  obtain ⟨r1, r2⟩ := r
  have hst := capLen_step has.length
  unfold addH
  rw [if_pos hon, r1]
  by_cases hlt : has.length < 528
  · have ha := capLen_at has.length hlt
    rw [ha]
    rw [ha] at hst
    rw [if_pos (by omega)]
    refine ⟨⟨by simp only [List.length_append, List.length_singleton]; exact hst, ?_⟩, by simp [hh]⟩
    intro i hi h8
    simp only [List.length_append, List.length_singleton] at h8 ⊢
    by_cases hie : i = has.length / 8
    · have hset : (h.held.set (has.length / 8) (shB (h.held.getD (has.length / 8) 0) b)).getD i 0 = shB (h.held.getD i 0) b := by
        rw [hie]
        simp only [List.getD]
        rw [List.getElem?_set_self (by rw [hh]; omega)]
        rfl
      rw [hset, shB_toNat]
      have h9 : 8 * i ≤ has.length := by omega
      have hr := r2 i hi h9
      have htl : (has.drop (8 * i)).length < 8 := by simp; omega
      rw [List.take_of_length_le (by omega)] at hr
      have e1 : min 8 (has.length - 8 * i) = (has.drop (8 * i)).length := by simp; omega
      have e2 : min 8 (has.length + 1 - 8 * i) = (has.drop (8 * i)).length + 1 := by simp; omega
      rw [e1] at hr
      rw [e2]
      have := push_val _ _ b htl hr
      rw [this, List.drop_append_of_le_length h9, List.take_of_length_le (by simp at htl ⊢; omega)]
    · have hset : (h.held.set (has.length / 8) (shB (h.held.getD (has.length / 8) 0) b)).getD i 0 = h.held.getD i 0 := by
        simp only [List.getD]
        rw [List.getElem?_set_ne (by omega)]
      rw [hset]
      by_cases hlo : 8 * i + 8 ≤ has.length
      · have hr := r2 i hi (by omega)
        have e1 : min 8 (has.length - 8 * i) = 8 := by omega
        have e2 : min 8 (has.length + 1 - 8 * i) = 8 := by omega
        rw [e1] at hr
        rw [e2, hr, take_more _ _ _ _ (by omega)]
      · have e0 : 8 * i = has.length + 1 := by omega
        have e2 : min 8 (has.length + 1 - 8 * i) = 0 := by omega
        have hx : (h.held.getD i 0).toNat < 256 := UInt8.toNat_lt _
        have e3 : ((has ++ [b]).drop (8 * i)) = [] := List.drop_eq_nil_of_le (by simp; omega)
        rw [e2, e3]
        simp [val]
        simpa using hx
  · rw [if_neg (capLen_beyond _ (by omega))]
    refine ⟨⟨by simp only [List.length_append, List.length_singleton]; exact hst, ?_⟩, hh⟩
    intro i hi h8
    simp only [List.length_append, List.length_singleton]
    have hr := r2 i hi (by omega)
    have e1 : min 8 (has.length - 8 * i) = 8 := by omega
    have e2 : min 8 (has.length + 1 - 8 * i) = 8 := by omega
    rw [e1] at hr
    rw [e2, hr, take_more _ _ _ _ (by omega)]

theorem list_ext_getD {l m : List UInt8} (hl : l.length = m.length) (h : ∀ i, i < l.length → l.getD i 0 = m.getD i 0) : l = m := by
  apply List.ext_getElem hl
  intro i h1 h2
  have := h i h1
  simpa [List.getD, h1, h2] using this

theorem held_pack (h : HS) (has : List Bool) (hh : h.held.length = 66) (r : Rep h has) (n : Nat) (hn : n ≤ 66) (hb : 8 * n ≤ has.length) : h.held.take n = packL n has := by
  apply list_ext_getD
  · rw [packL_length]; simp; omega
  · intro i hi
    simp at hi
    rw [packL_getD n has i (by omega)]
    have hr := r.2 i (by omega) (by omega)
    have e1 : min 8 (has.length - 8 * i) = 8 := by omega
    rw [e1] at hr
    simp at hr
    have hlt : i < h.held.length := by omega
    rw [← hr]
    simp [List.getD, hlt, show i < n by omega]

theorem packL_take (n : Nat) (l : List Bool) (m : Nat) (h : 8 * n ≤ m) : packL n (l.take m) = packL n l := by
  induction n generalizing l m with
  | zero => rfl
  | succ n ih =>
    simp only [packL]
    rw [List.take_take, Nat.min_eq_left (by omega), List.drop_take, ih _ _ (by omega)]

theorem take_packL (n m : Nat) (l : List Bool) (h : m ≤ n) : (packL n l).take m = packL m l := by
  induction m generalizing n l with
  | zero => simp [packL]
  | succ m ih =>
    obtain ⟨n, rfl⟩ : ∃ k, n = k + 1 := ⟨n - 1, by omega⟩
    simp only [packL, List.take_succ_cons]
    rw [ih n _ (by omega)]

theorem judge_rep (h : HS) (has : List Bool) (hh : h.held.length = 66) (r : Rep h has) (h6 : 6 < has.length) : judgeL h.held (h.len - 6) = foundL (has.take (has.length - 6)) := by
  have hl : (has.take (has.length - 6)).length = has.length - 6 := by simp
  rw [r.1]
  by_cases hlt : has.length < 535
  · have e : capLen has.length = has.length := by unfold capLen; rw [if_pos hlt]
    rw [e]
    unfold judgeL foundL
    rw [hl]
    by_cases a1 : has.length - 6 < 32
    · rw [if_pos a1, if_pos a1]
    rw [if_neg a1, if_neg a1]
    by_cases a2 : (has.length - 6) % 8 ≠ 0
    · rw [if_pos a2, if_pos a2]
    rw [if_neg a2, if_neg a2]
    have a3 : ¬ 528 < has.length - 6 := by omega
    rw [if_neg a3, if_neg a3]
    have p1 := held_pack h has hh r ((has.length - 6) / 8) (by omega) (by omega)
    have p2 : h.held.take ((has.length - 6) / 8 - 2) = packL ((has.length - 6) / 8 - 2) has := held_pack h has hh r _ (by omega) (by omega)
    rw [p1, p2, packL_take _ _ _ (by omega), take_packL _ _ _ (by omega)]
  · have e : capLen has.length = 535 + (has.length - 535) % 8 := by unfold capLen; rw [if_neg hlt]
    rw [e]
    unfold judgeL foundL
    rw [hl]
    have b1 : ¬ 535 + (has.length - 535) % 8 - 6 < 32 := by omega
    have c1 : ¬ has.length - 6 < 32 := by omega
    rw [if_neg b1, if_neg c1]
    by_cases a2 : (has.length - 6) % 8 ≠ 0
    · have b2 : (535 + (has.length - 535) % 8 - 6) % 8 ≠ 0 := by omega
      rw [if_pos b2, if_pos a2]
    · have b2 : ¬ (535 + (has.length - 535) % 8 - 6) % 8 ≠ 0 := by omega
      have b3 : 528 < 535 + (has.length - 535) % 8 - 6 := by omega
      have c3 : 528 < has.length - 6 := by omega
      rw [if_neg b2, if_neg a2, if_pos b3, if_pos c3]

theorem capLen_6 (n : Nat) : 6 < capLen n ↔ 6 < n := by
  unfold capLen
  split <;> omega

theorem rep_nil (h : HS) (hl : h.len = 0) : Rep h [] := by
  refine ⟨by rw [hl]; simp [capLen], ?_⟩
  intro i _ h8
  simp at h8
  have h0 : i = 0 := by omega
  subst h0
  have : (h.held.getD 0 0).toNat < 256 := UInt8.toNat_lt _
  simp [val]
  simpa using this

theorem sim_hear (h : HS) (s : IH) (b : Bool) (k : Sim h s) : Sim (hearH h b).1 (hearI s b).1 ∧ (hearH h b).2 = (hearI s b).2 := by
  obtain ⟨k1, k2, k3, k4, k5, k6⟩ := k
  cases b
  · -- a nought
    unfold hearH hearI
    simp only [Bool.false_eq_true, if_false]
    by_cases c6 : s.c = 6
    · have o6 : h.ones = 6 := by omega
      simp only [noughtH, if_pos o6, if_pos c6, endH]
      refine ⟨⟨rfl, rfl, by simp, k4, fun _ => rep_nil _ rfl, fun hh => by simp at hh⟩, ?_⟩
      by_cases hon : s.on = true
      · have r := k5 hon
        by_cases h6 : 6 < s.has.length
        · rw [if_pos ⟨by rw [k1]; exact hon, by rw [r.1]; exact (capLen_6 _).2 h6⟩, if_pos ⟨hon, h6⟩, judge_rep h _ k4 r h6]
        · rw [if_neg (fun hh => h6 ((capLen_6 _).1 (r.1 ▸ hh.2))), if_neg (fun hh => h6 hh.2)]
      · rw [if_neg (fun hh => hon (k1 ▸ hh.1)), if_neg (fun hh => hon hh.1)]
    · by_cases c5 : s.c = 5
      · have o5 : h.ones = 5 := by omega
        simp only [noughtH, o5, c5]
        simp
        exact ⟨k1, rfl, by simp, k4, k5, k6⟩
      · have o6 : ¬ h.ones = 6 := by omega
        have o5 : ¬ h.ones = 5 := by omega
        simp only [noughtH, if_neg o6, if_neg o5, if_neg c6, if_neg c5]
        refine ⟨?_, trivial⟩
        by_cases hon : s.on = true
        · have hon' : h.on = true := by rw [k1]; exact hon
          have r := addH_rep h s.has false hon' k4 (k5 hon)
          refine ⟨by simp [addH, hon', hon], rfl, by simp, r.2, fun _ => ?_, fun hh => by simp [hon] at hh⟩
          rw [if_pos hon]
          exact r.1
        · have hoff : s.on = false := by simpa using hon
          have hon' : h.on = false := by rw [k1]; exact hoff
          have e : addH h false = h := by simp [addH, hon']
          rw [e]
          refine ⟨k1, rfl, by simp, k4, fun hh => absurd hh hon, fun _ => by rw [if_neg hon]; exact k6 hoff⟩
  · -- a one
    unfold hearH hearI
    simp only [if_true, oneH, one2H]
    by_cases c6 : s.c = 6
    · have o6 : h.ones = 6 := by omega
      have e7 : (upH h).ones = 7 := by simp [upH, o6]
      rw [if_pos e7, if_pos c6]
      refine ⟨⟨rfl, e7, by simp, k4, fun hh => by simp at hh, fun _ => rfl⟩, ?_⟩
      simp only [abortH]
      by_cases hon : s.on = true
      · have r := k5 hon
        have e1 : (upH h).len = capLen s.has.length := r.1
        have e2 : (upH h).on = true := by show h.on = true; rw [k1]; exact hon
        by_cases h6 : 6 < s.has.length
        · rw [if_pos ⟨e2, by rw [e1]; exact (capLen_6 _).2 h6⟩, if_pos ⟨hon, h6⟩]
        · rw [if_neg (fun hh => h6 ((capLen_6 _).1 (e1 ▸ hh.2))), if_neg (fun hh => h6 hh.2)]
      · have e2 : (upH h).on = s.on := k1
        rw [if_neg (fun hh => hon (e2 ▸ hh.1)), if_neg (fun hh => hon hh.1)]
    · by_cases c7 : s.c = 7
      · have o7 : h.ones = 7 := by omega
        have e7 : (upH h).ones = 7 := by simp [upH, o7]
        rw [if_pos e7, if_neg c6, if_pos c7]
        refine ⟨⟨rfl, e7, by simp, k4, fun hh => by simp at hh, fun _ => rfl⟩, ?_⟩
        simp only [abortH]
        by_cases hon : s.on = true
        · have r := k5 hon
          have e1 : (upH h).len = capLen s.has.length := r.1
          have e2 : (upH h).on = true := by show h.on = true; rw [k1]; exact hon
          by_cases h6 : 6 < s.has.length
          · rw [if_pos ⟨e2, by rw [e1]; exact (capLen_6 _).2 h6⟩, if_pos ⟨hon, h6⟩]
          · rw [if_neg (fun hh => h6 ((capLen_6 _).1 (e1 ▸ hh.2))), if_neg (fun hh => h6 hh.2)]
        · have e2 : (upH h).on = s.on := k1
          rw [if_neg (fun hh => hon (e2 ▸ hh.1)), if_neg (fun hh => hon hh.1)]
      · have e1 : (upH h).ones = s.c + 1 := by simp only [upH]; rw [if_pos (by omega)]; omega
        rw [if_neg (by omega), if_neg c6, if_neg c7]
        by_cases h5 : s.c + 1 ≤ 5
        · rw [if_pos (by omega)]
          refine ⟨?_, rfl⟩
          by_cases hon : s.on = true
          · have hon' : (upH h).on = true := by show h.on = true; rw [k1]; exact hon
            have r := addH_rep (upH h) s.has true hon' k4 (k5 hon)
            refine ⟨?_, ?_, by simp; omega, r.2, fun _ => ?_, fun hh => by simp [hon] at hh⟩
            · simp only [addH, if_pos hon']; exact hon'.trans hon.symm
            · simp only [addH, if_pos hon']; exact e1
            · rw [if_pos ⟨hon, h5⟩]; exact r.1
          · have hoff : s.on = false := by simpa using hon
            have hon' : (upH h).on = false := by show h.on = false; rw [k1]; exact hoff
            have e : addH (upH h) true = upH h := by simp [addH, hon']
            rw [e]
            exact ⟨k1, e1, by simp; omega, k4, fun hh => absurd hh hon, fun _ => by rw [if_neg (fun hh => hon hh.1)]; exact k6 hoff⟩
        · rw [if_neg (by omega)]
          refine ⟨⟨k1, e1, by simp; omega, k4, fun hh => ?_, fun hh => ?_⟩, rfl⟩
          · rw [if_neg (fun q => h5 q.2)]; exact k5 hh
          · rw [if_neg (fun q => h5 q.2)]; exact k6 hh

theorem sim_feed (h : HS) (s : IH) (l : List Bool) (k : Sim h s) : Sim (feedH h l).1 (feedI s l).1 ∧ (feedH h l).2 = (feedI s l).2 := by
  induction l generalizing h s with
  | nil => exact ⟨k, rfl⟩
  | cons b r ih =>
    obtain ⟨q1, q2⟩ := sim_hear h s b k
    obtain ⟨i1, i2⟩ := ih _ _ q1
    exact ⟨i1, by simp only [feedH, feedI]; rw [q2, i2]⟩

end Go.Proofs.YtkalonhalhdlaaaGreatDoor

/-
  What one call of tetherref.Sum does: the sum of plain words (LPure), the world as it was.
-/
namespace Go.Proofs.YtkalonhalhdlaaaGreatDoor
open Go.RowKit

theorem xor_i64 (c : Nat) (hc : c < 65536) : bits .xor .i64 ((c : Int) / 2) 33800 = ((c / 2 ^^^ 33800 : Nat) : Int) := by
  have hx := xor_lt c hc
  have e : ((c : Int) / 2) = ((c / 2 : Nat) : Int) := by omega
  have e2 : (33800 : Int) = ((33800 : Nat) : Int) := rfl
  rw [e, e2]
  show IntKind.i64.wrap ((BitVec.ofInt 64 ((c / 2 : Nat) : Int) ^^^ BitVec.ofInt 64 ((33800 : Nat) : Int)).toNat : Int) = _
  rw [BitVec.toNat_xor, ofInt_u64 (c / 2) (by omega), ofInt_u64 33800 (by omega), IntKind.wrap_i64]
  omega

set_option maxHeartbeats 400000 in
theorem refSum_any (b off cap : Nat) (l : List UInt8) (w : World) (hl : l.length ≤ maxLen) (hc : Seg w b off l) :
    Calls Tryz.prog 27 #[.slice (some ⟨b, off, none⟩) l.length cap] w fun e w' => e = .returned (.int .i64 (sumL l)) ∧ w' = w := by
  unfold maxLen at hl
  go_enter Tryz.func27, Tryz.ntmps27
  go_wp2
  go_loop [3, 4] (fun s i => ∃ (k c : Nat), k ≤ l.length ∧ c < 65536 ∧ i = .int .i64 k ∧ s = .int .i64 c ∧ crcL c (l.drop k) = crcL crcTop l) (fun _ i => l.length - (intOf i).toNat)
  case atStart => exact ⟨0, crcTop, Nat.zero_le _, crcTop_lt, rfl, rfl, rfl⟩
  case round =>
    obtain ⟨k, c, hk, hc16, rfl, rfl, hcrc⟩ := hrel
    by_cases hlt : k < l.length
    · have hcell := hc k hlt
      have hdrop : Hid (l.drop k = l.getD k 0 :: l.drop (k + 1)) := by
        show l.drop k = l.getD k 0 :: l.drop (k + 1)
        rw [List.drop_eq_getElem_cons hlt]; simp [List.getD, hlt]
      generalize hx : l.getD k 0 = x at hcell hdrop
      have hx8 : x.toNat < 256 := x.toNat_lt
      clear hx
      have HC : Hid (crcL c (l.drop k) = crcL crcTop l) := hcrc
      clear hcrc
      go_wp2
      go_loop [3, 5, 6] (fun s x' i => ∃ (j d y : Nat), j ≤ 8 ∧ d < 65536 ∧ y < 256 ∧ i = .int .i64 j ∧ s = .int .i64 d ∧ x' = .int .i64 y ∧ crcN (8 - j) d y = crcN 8 c x.toNat) (fun _ _ i => 8 - (intOf i).toNat)
      case atStart => exact ⟨0, c, x.toNat, by omega, hc16, hx8, rfl, rfl, rfl, rfl⟩
      case round =>
        obtain ⟨j, d, y, hj, hd, hy, rfl, rfl, rfl, hcn⟩ := hrel
        have HN : Hid (crcN (8 - j) d y = crcN 8 c x.toNat) := hcn
        clear hcn
        by_cases hj8 : j < 8
        · have hxc := xor_i64 d hd
          have e8 : Hid (8 - j = (8 - (j + 1)) + 1) := by show 8 - j = (8 - (j + 1)) + 1; omega
          by_cases hdm : d % 2 = y % 2
          · have h1 : ((d : Int) % 2 != (y : Int) % 2) = false := by simp; omega
            clear hxc
            have HM : Hid (crc1 d y = d / 2) := by show crc1 d y = d / 2; simp [crc1, hdm]
            clear hdm
            go_wp2
            go_round
            case rel =>
              refine ⟨j + 1, d / 2, y / 2, by omega, by omega, by omega, by go_num, by go_num, by go_num, ?_⟩
              rw [← HN.out, e8.out, crcN, HM.out]
            case measure => simp [intOf]; omega
          · have h1 : ((d : Int) % 2 != (y : Int) % 2) = true := by simp; omega
            have HM : Hid (crc1 d y = d / 2 ^^^ 33800) := by show crc1 d y = d / 2 ^^^ 33800; simp [crc1, hdm]
            have HX : Hid (bits .xor .i64 ((d : Int) / 2) 33800 = ((d / 2 ^^^ 33800 : Nat) : Int)) := hxc
            clear hdm hxc
            go_wp2
            go_round
            case rel =>
              refine ⟨j + 1, d / 2 ^^^ 33800, y / 2, by omega, xor_lt d hd, by omega, by go_num, ?_, by go_num, ?_⟩
              · rw [HX.out]
              · rw [← HN.out, e8.out, crcN, HM.out]
            case measure => simp [intOf]; omega
        · have e0 : j = 8 := by omega
          subst e0
          go_wp2
          go_round
          case rel =>
            refine ⟨k + 1, d, by omega, hd, by go_num, rfl, ?_⟩
            have h1 : d = crcN 8 c x.toNat := HN.out
            have h2 : crcL c (x :: l.drop (k + 1)) = crcL crcTop l := hdrop.out ▸ HC.out
            exact (congrArg (fun z => crcL z (List.drop (k + 1) l)) h1).trans h2
          case measure => simp [intOf]; omega
    · have HS : Hid (sumL l = 65535 - c) := sumL_of l k c (by omega) hcrc
      clear hcrc
      go_wp2
      go_ret
      refine ⟨ret_int ?_, rfl⟩
      rw [HS.out]
      omega
end Go.Proofs.YtkalonhalhdlaaaGreatDoor

/-
  Blocks and their cells, one by one.
-/
namespace Go.Proofs.YtkalonhalhdlaaaGreatDoor
open Go.RowKit

/-- A block whose cells are known, one of them written. -/
theorem block_set {w : World} {F j : Nat} {cs : Array Value} {t : TypeId} {fz : Nat × Nat} (h : w.heap[F]? = some (.cells cs t fz)) (v : Value) : (w.setCell ⟨F, j, none⟩ v).heap[F]? = some (.cells (cs.setIfInBounds j v) t fz) := by
  skip
  simp [World.setCell, Array.getElem?_modify, h]
theorem alloc2_s (w : World) (o p : Obj) : ((w.alloc o).alloc p).heap.size = w.heap.size + 2 := by rw [alloc1_s, alloc1_s]
end Go.Proofs.YtkalonhalhdlaaaGreatDoor
