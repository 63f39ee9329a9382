/-
  The line in plain words, of no program: the sum of bytes, bits as they stand on the line, and a hunter that goes from bit to bit.
-/
import Derived.Laws.BitsAllLaws
namespace Go.Proofs.YtkalonhalhdlaaaGreatDoor

/-- One bit of the sum: c the sum, x the byte, its lowest bit next. -/
def crc1 (c x : Nat) : Nat := if c % 2 = x % 2 then c / 2 else (c / 2) ^^^ 33800
/-- n bits of it. -/
def crcN : Nat → Nat → Nat → Nat
  | 0, c, _ => c
  | n + 1, c, x => crcN n (crc1 c x) (x / 2)
def crcL : Nat → List UInt8 → Nat
  | c, [] => c
  | c, x :: r => crcL (crcN 8 c x.toNat) r
def crcTop : Nat := 65535
theorem crcTop_lt : crcTop < 65536 := by unfold crcTop; omega
/-- The sum of bytes. -/
def sumL (l : List UInt8) : Nat := crcTop - crcL crcTop l
theorem crcL_end (c : Nat) (l : List UInt8) : crcL c (l.drop l.length) = c := by rw [List.drop_length]; rfl

theorem crc1_lt (c x : Nat) (h : c < 65536) : crc1 c x < 65536 := by
  unfold crc1
  split
  · omega
  · exact Nat.xor_lt_two_pow (n := 16) (by omega) (by omega)
theorem crcN_lt (n c x : Nat) (h : c < 65536) : crcN n c x < 65536 := by
  induction n generalizing c x with
  | zero => exact h
  | succ n ih => exact ih _ _ (crc1_lt c x h)
theorem crcL_lt (c : Nat) (l : List UInt8) (h : c < 65536) : crcL c l < 65536 := by
  induction l generalizing c with
  | nil => exact h
  | cons x r ih => exact ih _ (crcN_lt 8 _ _ h)
theorem sumL_of (l : List UInt8) (k c : Nat) (hk : k = l.length) (h : crcL c (l.drop k) = crcL crcTop l) : sumL l = 65535 - c := by
  subst hk
  rw [crcL_end] at h
  show crcTop - crcL crcTop l = 65535 - c
  rw [← h]
  rfl
theorem sumL_le (l : List UInt8) : sumL l ≤ 65535 := Nat.sub_le _ _

/-- The two bytes of the sum, the lower one first. -/
def sumB (l : List UInt8) : List UInt8 := [UInt8.ofNat (sumL l % 256), UInt8.ofNat (sumL l / 256)]

/-- n bits of a number, the lowest first. -/
def lowBits : Nat → Nat → List Bool
  | 0, _ => []
  | n + 1, x => (x % 2 == 1) :: lowBits n (x / 2)
theorem lowBits_length (n x : Nat) : (lowBits n x).length = n := by
  induction n generalizing x with
  | zero => rfl
  | succ n ih => simp [lowBits, ih]
/-- The bits of bytes. -/
def plainL : List UInt8 → List Bool
  | [] => []
  | x :: r => lowBits 8 x.toNat ++ plainL r
theorem plainL_length (l : List UInt8) : (plainL l).length = 8 * l.length := by
  induction l with
  | nil => rfl
  | cons x r ih => simp [plainL, lowBits_length, ih]; omega
theorem plainL_append (a b : List UInt8) : plainL (a ++ b) = plainL a ++ plainL b := by
  induction a with
  | nil => rfl
  | cons x r ih => simp [plainL, ih]

/-- Behind each five ones a nought: n ones stand ahead. -/
def stuffL : Nat → List Bool → List Bool
  | _, [] => []
  | _, false :: r => false :: stuffL 0 r
  | n, true :: r => if n + 1 = 5 then true :: false :: stuffL 0 r else true :: stuffL (n + 1) r
theorem stuffL_length (n : Nat) (l : List Bool) : (stuffL n l).length ≤ 2 * l.length := by
  induction l generalizing n with
  | nil => simp [stuffL]
  | cons b r ih =>
    cases b
    · have := ih 0; simp [stuffL]; omega
    · have h0 := ih 0; have h1 := ih (n + 1); unfold stuffL; split <;> simp <;> omega

def flagL : List Bool := [false, true, true, true, true, true, true, false]
/-- One frame as it stands ahead of its flag. -/
def frameL (f : List UInt8) : List Bool := stuffL 0 (plainL f ++ plainL (sumB f))
def framesL : List (List UInt8) → List Bool
  | [] => []
  | f :: r => frameL f ++ flagL ++ framesL r
/-- Frames on the line. -/
def wireL (fs : List (List UInt8)) : List Bool := flagL ++ framesL fs

/-- A bit as a character, bits as a text. -/
def chr (b : Bool) : UInt8 := if b then 49 else 48
def txt (l : List Bool) : List UInt8 := l.map chr
theorem txt_append (a b : List Bool) : txt (a ++ b) = txt a ++ txt b := by simp [txt]
theorem txt_length (a : List Bool) : (txt a).length = a.length := by simp [txt]
theorem frameL_length (f : List UInt8) : (frameL f).length ≤ 16 * f.length + 32 := by
  have := stuffL_length 0 (plainL f ++ plainL (sumB f))
  simp [plainL_length, sumB] at this
  unfold frameL
  simp [sumB]
  omega
theorem framesL_length (fs : List (List UInt8)) (h : ∀ f ∈ fs, f.length ≤ 64) : (framesL fs).length ≤ 1064 * fs.length := by
  induction fs with
  | nil => simp [framesL]
  | cons f r ih =>
    have h1 := frameL_length f
    have h2 := h f (by simp)
    have h3 := ih fun g hg => h g (by simp [hg])
    simp [framesL, flagL]
    omega

/-- A hunter: is it on; ones in a row; bits that it has; the first of these, as bytes. -/
structure HS where
  on : Bool
  ones : Nat
  len : Nat
  held : List UInt8

def fresh : HS := ⟨false, 0, 0, List.replicate 66 0⟩
def shB (x : UInt8) (b : Bool) : UInt8 := UInt8.ofNat (x.toNat / 2 + (if b then 128 else 0))
def lenA (n : Nat) : Nat := if n = 542 then 534 else n
def addH (h : HS) (b : Bool) : HS :=
  if h.on then { h with len := lenA h.len + 1, held := if lenA h.len / 8 < 66 then h.held.set (lenA h.len / 8) (shB (h.held.getD (lenA h.len / 8) 0) b) else h.held } else h

/-- What is told: a kind, and bytes. -/
def judgeL (held : List UInt8) (n : Nat) : Nat × List UInt8 :=
  if n < 32 then (3, [])
  else if n % 8 ≠ 0 then (4, [])
  else if 528 < n then (6, [])
  else if (held.take (n / 8)).drop (n / 8 - 2) = sumB (held.take (n / 8 - 2)) then (1, held.take (n / 8 - 2)) else (5, [])

def abortH (h : HS) : HS × Option (Nat × List UInt8) :=
  ({ h with on := false, len := 0 }, if h.on = true ∧ 6 < h.len then some (2, []) else none)
def endH (h : HS) : HS × Option (Nat × List UInt8) :=
  ({ h with on := true, len := 0 }, if h.on = true ∧ 6 < h.len then some (judgeL h.held (h.len - 6)) else none)
def upH (h : HS) : HS := { h with ones := if h.ones < 7 then h.ones + 1 else h.ones }
def one2H (h : HS) : HS × Option (Nat × List UInt8) :=
  if h.ones = 7 then abortH h else if h.ones ≤ 5 then (addH h true, none) else (h, none)
def oneH (h : HS) : HS × Option (Nat × List UInt8) := one2H (upH h)
def noughtH (h : HS) : HS × Option (Nat × List UInt8) :=
  if h.ones = 6 then endH h else if h.ones = 5 then (h, none) else (addH h false, none)
def hearH (h : HS) (b : Bool) : HS × Option (Nat × List UInt8) :=
  if b then oneH h else ({ (noughtH h).1 with ones := 0 }, (noughtH h).2)
def feedH : HS → List Bool → HS × List (Nat × List UInt8)
  | h, [] => (h, [])
  | h, b :: r => ((feedH (hearH h b).1 r).1, (hearH h b).2.toList ++ (feedH (hearH h b).1 r).2)

/-- What always holds of a hunter. -/
def HS.ok (h : HS) : Prop := h.held.length = 66 ∧ h.ones ≤ 7 ∧ h.len ≤ 542

theorem lenA_lt (n : Nat) (h : n ≤ 542) : lenA n < 542 := by unfold lenA; split <;> omega
theorem addH_ok (h : HS) (b : Bool) (k : h.ok) : (addH h b).ok := by
  obtain ⟨h1, h2, h3⟩ := k
  have := lenA_lt h.len h3
  unfold addH
  split
  · refine ⟨?_, h2, ?_⟩
    · simp only; split <;> simp [h1]
    · simp only; omega
  · exact ⟨h1, h2, h3⟩
theorem upH_ok (h : HS) (k : h.ok) : (upH h).ok := by
  obtain ⟨h1, h2, h3⟩ := k
  refine ⟨h1, ?_, h3⟩
  simp only [upH]
  split <;> omega
theorem oneH_ok (h : HS) (k : h.ok) : (oneH h).1.ok := by
  have k1 := upH_ok h k
  unfold oneH one2H
  split
  · exact ⟨k1.1, k1.2.1, by simp [abortH]⟩
  · split
    · exact addH_ok _ _ k1
    · exact k1
theorem noughtH_ok (h : HS) (k : h.ok) : (noughtH h).1.ok := by
  have k0 := k
  obtain ⟨h1, h2, h3⟩ := k
  unfold noughtH
  split
  · exact ⟨h1, h2, by simp [endH]⟩
  · split
    · exact k0
    · exact addH_ok _ _ k0
theorem hearH_ok (h : HS) (b : Bool) (k : h.ok) : (hearH h b).1.ok := by
  unfold hearH
  split
  · exact oneH_ok h k
  · obtain ⟨h1, _, h3⟩ := noughtH_ok h k
    exact ⟨h1, by simp, h3⟩
theorem feedH_ok (h : HS) (l : List Bool) (k : h.ok) : (feedH h l).1.ok := by
  induction l generalizing h with
  | nil => exact k
  | cons b r ih => exact ih _ (hearH_ok h b k)
theorem fresh_ok : fresh.ok := ⟨by simp [fresh], by simp [fresh], by simp [fresh]⟩
theorem feedH_length (h : HS) (l : List Bool) : (feedH h l).2.length ≤ l.length := by
  induction l generalizing h with
  | nil => simp [feedH]
  | cons b r ih =>
    have := ih (hearH h b).1
    have h2 : (hearH h b).2.toList.length ≤ 1 := by cases (hearH h b).2 <;> simp
    simp only [feedH, List.length_append, List.length_cons]
    omega

end Go.Proofs.YtkalonhalhdlaaaGreatDoor
