/-
  A hunter in the document's words (it keeps all bits that it has), and that the hunter of plain words (LPure) tells the same; what it tells of frames as they stand on the line, and of a line of which one bit is another one.
-/
import Derived.Test.YtkalonhalhdlaaaLPure
namespace Go.Proofs.Ytkalonhalhdlaaa

/-- The number of bits, the lowest first. -/
def val : List Bool → Nat
  | [] => 0
  | b :: r => (if b then 1 else 0) + 2 * val r
theorem val_append (a b : List Bool) : val (a ++ b) = val a + 2 ^ a.length * val b := by
  induction a with
  | nil => simp [val]
  | cons x r ih =>
    simp only [List.cons_append, val, ih, List.length_cons, Nat.pow_succ]
    rw [Nat.mul_add]
    have : 2 * (2 ^ r.length * val b) = 2 ^ r.length * 2 * val b := by rw [Nat.mul_comm (2 ^ r.length) 2, Nat.mul_assoc]
    omega
theorem val_lt (a : List Bool) : val a < 2 ^ a.length := by
  induction a with
  | nil => simp [val]
  | cons x r ih =>
    simp only [val, List.length_cons, Nat.pow_succ]
    split <;> omega
theorem val_lowBits (n x : Nat) (h : x < 2 ^ n) : val (lowBits n x) = x := by
  induction n generalizing x with
  | zero => simp [lowBits, val]; simp at h; omega
  | succ n ih =>
    have h2 : x / 2 < 2 ^ n := by rw [Nat.pow_succ] at h; omega
    simp only [lowBits, val, ih _ h2]
    rcases Nat.mod_two_eq_zero_or_one x with h' | h' <;> simp [h'] <;> omega

/-- n bytes out of bits. -/
def packL : Nat → List Bool → List UInt8
  | 0, _ => []
  | n + 1, l => UInt8.ofNat (val (l.take 8)) :: packL n (l.drop 8)
theorem packL_length (n : Nat) (l : List Bool) : (packL n l).length = n := by
  induction n generalizing l with
  | zero => rfl
  | succ n ih => simp [packL, ih]
theorem packL_plain (l : List UInt8) (r : List Bool) : packL l.length (plainL l ++ r) = l := by
  induction l with
  | nil => rfl
  | cons x t ih =>
    have h8 := lowBits_length 8 x.toNat
    have hx : x.toNat < 2 ^ 8 := x.toNat_lt
    simp only [List.length_cons, packL, plainL]
    rw [List.append_assoc, List.take_left' h8, List.drop_left' h8, ih, val_lowBits 8 _ hx]
    simp
theorem lowBits_val (l : List Bool) : lowBits l.length (val l) = l := by
  induction l with
  | nil => rfl
  | cons b r ih =>
    simp only [List.length_cons, lowBits, val]
    have h2 : ((if b then 1 else 0) + 2 * val r) / 2 = val r := by split <;> omega
    rw [h2, ih]
    cases b <;> simp <;> omega
theorem plain_pack (n : Nat) (l : List Bool) (h : l.length = 8 * n) : plainL (packL n l) = l := by
  induction n generalizing l with
  | zero => simp at h; simp [packL, plainL, h]
  | succ n ih =>
    simp only [packL, plainL]
    have h8 : (l.take 8).length = 8 := by simp; omega
    have hv := val_lt (l.take 8)
    rw [h8] at hv
    have e : (UInt8.ofNat (val (l.take 8))).toNat = val (l.take 8) := by simp; omega
    rw [e, ih _ (by simp; omega)]
    have := lowBits_val (l.take 8)
    rw [h8] at this
    rw [this, List.take_append_drop]
theorem packL_getD (n : Nat) (l : List Bool) (i : Nat) (h : i < n) : (packL n l).getD i 0 = UInt8.ofNat (val ((l.drop (8 * i)).take 8)) := by
  induction n generalizing l i with
  | zero => omega
  | succ n ih =>
    cases i with
    | zero => simp [packL]
    | succ i =>
      have := ih (l.drop 8) i (by omega)
      simp only [packL, List.getD_cons_succ]
      rw [this, List.drop_drop]
      congr 4
      omega

/-- What bits are, as a frame. -/
def foundL (l : List Bool) : Nat × List UInt8 :=
  if l.length < 32 then (3, [])
  else if l.length % 8 ≠ 0 then (4, [])
  else if 528 < l.length then (6, [])
  else if (packL (l.length / 8) l).drop (l.length / 8 - 2) = sumB ((packL (l.length / 8) l).take (l.length / 8 - 2)) then (1, (packL (l.length / 8) l).take (l.length / 8 - 2)) else (5, [])

theorem found_frame (f : List UInt8) (h1 : 2 ≤ f.length) (h2 : f.length ≤ 64) : foundL (plainL f ++ plainL (sumB f)) = (1, f) := by
  have hl : (plainL f ++ plainL (sumB f)).length = 8 * (f.length + 2) := by
    rw [List.length_append, plainL_length, plainL_length]; simp [sumB]; omega
  have hp : packL (f.length + 2) (plainL f ++ plainL (sumB f)) = f ++ sumB f := by
    have := packL_plain (f ++ sumB f) []
    rw [List.append_nil, plainL_append] at this
    have e : (f ++ sumB f).length = f.length + 2 := by simp [sumB]
    rw [e] at this
    exact this
  have e8 : 8 * (f.length + 2) / 8 = f.length + 2 := by omega
  unfold foundL
  rw [hl, e8, if_neg (by omega), if_neg (by omega), if_neg (by omega), hp]
  simp

theorem found_only (l : List Bool) (f : List UInt8) (h : foundL l = (1, f)) : l = plainL f ++ plainL (sumB f) := by
  unfold foundL at h
  split at h
  · simp at h
  split at h
  · simp at h
  split at h
  · simp at h
  split at h
  · rename_i h1 h2 h3 h4
    simp at h
    have hl : l.length = 8 * (l.length / 8) := by omega
    have hpp := plain_pack (l.length / 8) l hl
    have e : packL (l.length / 8) l = f ++ sumB f := by
      rw [← List.take_append_drop (l.length / 8 - 2) (packL (l.length / 8) l), h4, h]
    rw [← hpp, e, plainL_append]
  · simp at h

/-- A hunter in the document's words; the count goes no further than 7. -/
structure IH where
  on : Bool
  c : Nat
  has : List Bool

def hearI (s : IH) (b : Bool) : IH × Option (Nat × List UInt8) :=
  if b then
    if s.c = 6 then (⟨false, 7, []⟩, if s.on = true ∧ 6 < s.has.length then some (2, []) else none)
    else if s.c = 7 then (⟨false, 7, []⟩, if s.on = true ∧ 6 < s.has.length then some (2, []) else none)
    else (⟨s.on, s.c + 1, if s.on = true ∧ s.c + 1 ≤ 5 then s.has ++ [true] else s.has⟩, none)
  else
    if s.c = 6 then (⟨true, 0, []⟩, if s.on = true ∧ 6 < s.has.length then some (foundL (s.has.take (s.has.length - 6))) else none)
    else if s.c = 5 then (⟨s.on, 0, s.has⟩, none)
    else (⟨s.on, 0, if s.on = true then s.has ++ [false] else s.has⟩, none)
def feedI : IH → List Bool → IH × List (Nat × List UInt8)
  | s, [] => (s, [])
  | s, b :: r => ((feedI (hearI s b).1 r).1, (hearI s b).2.toList ++ (feedI (hearI s b).1 r).2)

def capLen (n : Nat) : Nat := if n < 535 then n else 535 + (n - 535) % 8
/-- The bytes that are held are the first of the bits. -/
def Rep (h : HS) (has : List Bool) : Prop :=
  h.len = capLen has.length ∧ ∀ i, i < 66 → 8 * i ≤ has.length → (h.held.getD i 0).toNat / 2 ^ (8 - min 8 (has.length - 8 * i)) = val ((has.drop (8 * i)).take 8)
def Sim (h : HS) (s : IH) : Prop := h.on = s.on ∧ h.ones = s.c ∧ s.c ≤ 7 ∧ h.held.length = 66 ∧ (s.on = true → Rep h s.has) ∧ (s.on = false → s.has = [])

end Go.Proofs.Ytkalonhalhdlaaa
