/-
  Frames as plain functions: what may be written, how its control is, and what bytes read as.
-/
import Derived.Laws.BitsAllLaws
namespace Go.Proofs.YtkalonhalhdlaaaGreatDoor
open Go

def isMod (m : Int) : Bool := decide (m = 8) || decide (m = 128)
def isAddr (a : Int) : Bool := decide (a = 1) || decide (a = 3)
def isKd (k : Int) : Bool := decide (1 ≤ k) && decide (k ≤ 9)
def hasS (k : Int) : Bool := decide (k = 1)
def hasR (k : Int) : Bool := decide (1 ≤ k) && decide (k ≤ 4)
def numF (m n : Int) (has : Bool) : Bool := if has then decide (0 ≤ n) && decide (n < m) else decide (n = 0)
def repN (m : Int) : Int := if m = 8 then 3 else 5
def infoF (m k n : Int) : Bool := if k = 1 then decide (n ≤ 32) else if k = 9 then n == repN m else n == 0

/-- A control's first byte without numbers and Poll. -/
def tabN : List Nat := [0, 0, 1, 5, 9, 47, 67, 99, 15, 135]
def baseN (m k : Nat) : Nat := if k = 5 ∧ m = 128 then 111 else tabN.getD k 0
def maskN (m k : Nat) : Nat := if k = 1 then 1 else if 4 < k then 239 else if m = 8 then 15 else 255
def wide (m k : Nat) : Bool := decide (m = 128) && decide (k ≤ 4)
def cbN (m k : Nat) : Nat := if wide m k then 2 else 1
def bitN (p : Bool) (n : Nat) : Nat := if p then n else 0

/-- The control's bytes. -/
def ctlL (m k ns nr : Nat) (p : Bool) : List UInt8 :=
  if wide m k then [UInt8.ofNat (baseN m k + 2 * ns), UInt8.ofNat (bitN p 1 + 2 * nr)]
  else [UInt8.ofNat (baseN m k + 2 * ns + bitN p 16 + 32 * nr)]

/-- The first kind from k on, of n more, whose bits a byte has. -/
def kindFrom (m c : Nat) : Nat → Nat → Option Nat
  | _, 0 => none
  | k, n + 1 => if c &&& maskN m k = baseN m k then some k else kindFrom m c (k + 1) n

/-- A frame in plain words. -/
structure Fr where
  a : Int
  k : Int
  p : Bool
  ns : Int
  nr : Int
  info : List UInt8

def frNone : Fr := ⟨0, 0, false, 0, 0, []⟩

/-- What is written: an error, or bytes. -/
def writeL (m : Int) (f : Fr) : Nat × List UInt8 :=
  if (isMod m && isKd f.k && numF m f.ns (hasS f.k) && numF m f.nr (hasR f.k)) = false then (1, [])
  else if isAddr f.a = false then (3, [])
  else if infoF m f.k f.info.length = false then (5, [])
  else (0, UInt8.ofNat f.a.toNat :: (ctlL m.toNat f.k.toNat f.ns.toNat f.nr.toNat f.p ++ f.info))

/-- The kind, as far as the control's first byte. -/
def kindL (m : Int) (b : List UInt8) : Nat × Nat :=
  if isMod m = false then (0, 1)
  else match b with
  | [] => (0, 2)
  | a :: r => if isAddr a.toNat = false then (0, 3) else match r with
    | [] => (0, 2)
    | c :: _ => match kindFrom m.toNat c.toNat 1 9 with
      | some k => (k, 0)
      | none => (0, 4)

/-- What a whole control tells. -/
def ctlF (m k : Nat) (c : List UInt8) : Fr :=
  let c0 := (c.getD 0 0).toNat
  let c1 := (c.getD 1 0).toNat
  if 4 < k then ⟨0, k, decide (c0 &&& 16 ≠ 0), 0, 0, []⟩
  else if m = 8 then ⟨0, k, decide (c0 &&& 16 ≠ 0), if k = 1 then (c0 / 2 % m : Nat) else 0, (c0 / 32 : Nat), []⟩
  else ⟨0, k, decide (c1 % 2 ≠ 0), if k = 1 then (c0 / 2 % m : Nat) else 0, (c1 / 2 : Nat), []⟩

def readL (m : Int) (b : List UInt8) : Nat × Fr :=
  let r := kindL m b
  if r.2 ≠ 0 then (r.2, frNone)
  else
    let at' := 1 + cbN m.toNat r.1
    if b.length < at' then (2, frNone)
    else if infoF m r.1 (b.length - at' : Nat) = false then (5, frNone)
    else (0, { ctlF m.toNat r.1 (b.drop 1) with a := (b.getD 0 0).toNat, info := b.drop at' })

theorem baseN_lt (m k : Nat) : baseN m k < 256 := by
  unfold baseN tabN
  split
  · omega
  · match k with
    | 0 | 1 | 2 | 3 | 4 | 5 | 6 | 7 | 8 | 9 => simp
    | k + 10 => simp

theorem maskN_lt (m k : Nat) : maskN m k < 256 := by
  unfold maskN
  split
  · omega
  · split
    · omega
    · split <;> omega

theorem kindFrom_some {m c k n r : Nat} (h : kindFrom m c k n = some r) : k ≤ r ∧ r < k + n := by
  induction n generalizing k with
  | zero => simp [kindFrom] at h
  | succ n ih =>
    unfold kindFrom at h
    split at h
    · simp at h; omega
    · have := ih h; omega
end Go.Proofs.YtkalonhalhdlaaaGreatDoor
