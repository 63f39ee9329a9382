import Derived.Laws.BitsAllLaws
import Derived.WalkKit
import Derived.Test.YtkalonhalhdlaaaGreatDoorProg
import Derived.Deep.QuietTactic
import Derived.BigQuiet
import Derived.Deep.RegionWith
import Derived.WalkSmall
import Derived.Deep.RegionHeld3
import Derived.Lib.FrozenHead2
import Derived.Lib.OthersKept
import Derived.Lib.Walk
import Derived.Deep.AppendSrc
import Derived.Lib.AppendZeros
import Derived.Shelf.Bytes.SlEqualAll
import Derived.Lib.AppendZerosOnto
import Derived.Lib.BufferWrite
import Derived.Deep.WholeRow
/-
  Frames as plain functions: what may be written, how its control is, and what bytes read as.
-/
namespace Go.Proofs.YtkalonhalhdlaaaGreatDoor
open Go
def isMod (m : Int) : Bool := decide (m = 8) || decide (m = 128)
def isAddr (a : Int) : Bool := decide (a = 1) || decide (a = 3)
def isKd (k : Int) : Bool := decide (1 ≤ k) && decide (k ≤ 9)
def hasS (k : Int) : Bool := decide (k = 1)
def hasR (k : Int) : Bool := decide (1 ≤ k) && decide (k ≤ 4)
def numF (m n : Int) (has : Bool) : Bool := if has then decide (0 ≤ n) && decide (n < m) else decide (n = 0)
def repN (m : Int) : Int := if m = 8 then 3 else 5
def infoF (m k n : Int) : Bool := if k = 1 then decide (n ≤ 32) else if k = 9 then n == repN m else n == 0
/-- A control's first byte without numbers and Poll. -/
def tabN : List Nat := [0, 0, 1, 5, 9, 47, 67, 99, 15, 135]
def baseN (m k : Nat) : Nat := if k = 5 ∧ m = 128 then 111 else tabN.getD k 0
def maskN (m k : Nat) : Nat := if k = 1 then 1 else if 4 < k then 239 else if m = 8 then 15 else 255
def wide (m k : Nat) : Bool := decide (m = 128) && decide (k ≤ 4)
def cbN (m k : Nat) : Nat := if wide m k then 2 else 1
def bitN (p : Bool) (n : Nat) : Nat := if p then n else 0
/-- The control's bytes. -/
def ctlL (m k ns nr : Nat) (p : Bool) : List UInt8 :=
  if wide m k then [UInt8.ofNat (baseN m k + 2 * ns), UInt8.ofNat (bitN p 1 + 2 * nr)]
  else [UInt8.ofNat (baseN m k + 2 * ns + bitN p 16 + 32 * nr)]
/-- The first kind from k on, of n more, whose bits a byte has. -/
def kindFrom (m c : Nat) : Nat → Nat → Option Nat
  | _, 0 => none
  | k, n + 1 => if c &&& maskN m k = baseN m k then some k else kindFrom m c (k + 1) n
/-- A frame in plain words. -/
structure Fr where
  a : Int
  k : Int
  p : Bool
  ns : Int
  nr : Int
  info : List UInt8
def frNone : Fr := ⟨0, 0, false, 0, 0, []⟩
/-- What is written: an error, or bytes. -/
def writeL (m : Int) (f : Fr) : Nat × List UInt8 :=
  if (isMod m && isKd f.k && numF m f.ns (hasS f.k) && numF m f.nr (hasR f.k)) = false then (1, [])
  else if isAddr f.a = false then (3, [])
  else if infoF m f.k f.info.length = false then (5, [])
  else (0, UInt8.ofNat f.a.toNat :: (ctlL m.toNat f.k.toNat f.ns.toNat f.nr.toNat f.p ++ f.info))
/-- The kind, as far as the control's first byte. -/
def kindL (m : Int) (b : List UInt8) : Nat × Nat :=
  if isMod m = false then (0, 1)
  else match b with
  | [] => (0, 2)
  | a :: r => if isAddr a.toNat = false then (0, 3) else match r with
    | [] => (0, 2)
    | c :: _ => match kindFrom m.toNat c.toNat 1 9 with
      | some k => (k, 0)
      | none => (0, 4)
/-- What a whole control tells. -/
def ctlF (m k : Nat) (c : List UInt8) : Fr :=
  let c0 := (c.getD 0 0).toNat
  let c1 := (c.getD 1 0).toNat
  if 4 < k then ⟨0, k, decide (c0 &&& 16 ≠ 0), 0, 0, []⟩
  else if m = 8 then ⟨0, k, decide (c0 &&& 16 ≠ 0), if k = 1 then (c0 / 2 % m : Nat) else 0, (c0 / 32 : Nat), []⟩
  else ⟨0, k, decide (c1 % 2 ≠ 0), if k = 1 then (c0 / 2 % m : Nat) else 0, (c1 / 2 : Nat), []⟩
def readL (m : Int) (b : List UInt8) : Nat × Fr :=
  let r := kindL m b
  if r.2 ≠ 0 then (r.2, frNone)
  else
    let at' := 1 + cbN m.toNat r.1
    if b.length < at' then (2, frNone)
    else if infoF m r.1 (b.length - at' : Nat) = false then (5, frNone)
    else (0, { ctlF m.toNat r.1 (b.drop 1) with a := (b.getD 0 0).toNat, info := b.drop at' })
theorem baseN_lt (m k : Nat) : baseN m k < 256 := by
  unfold baseN tabN
  split
  · omega
  · match k with
    | 0 | 1 | 2 | 3 | 4 | 5 | 6 | 7 | 8 | 9 => simp
    | k + 10 => simp
theorem maskN_lt (m k : Nat) : maskN m k < 256 := by
  unfold maskN
  split
  · omega
  · split
    · omega
    · split <;> omega
theorem kindFrom_some {m c k n r : Nat} (h : kindFrom m c k n = some r) : k ≤ r ∧ r < k + n := by
  induction n generalizing k with
  | zero => simp [kindFrom] at h
  | succ n ih =>
    unfold kindFrom at h
    split at h
    · simp at h; omega
    · have := ih h; omega
end Go.Proofs.YtkalonhalhdlaaaGreatDoor

/-
  A station in plain words: numbers, flags, lists of bytes; each call a plain function.
-/
namespace Go.Proofs.YtkalonhalhdlaaaGreatDoor
open Go
abbrev Msg := List UInt8
/-- A configuration. -/
structure Cfg where
  m : Nat
  win : Nat
  tim : Nat
  tri : Nat
  room : Nat
  addr : Nat
structure Cfg.ok (c : Cfg) : Prop where
  m : c.m = 8 ∨ c.m = 128
  win1 : 1 ≤ c.win
  win15 : c.win ≤ 15
  winm : c.win < c.m
  tim1 : 1 ≤ c.tim
  tim100 : c.tim ≤ 100
  tri1 : 1 ≤ c.tri
  tri10 : c.tri ≤ 10
  room1 : 1 ≤ c.room
  room16 : c.room ≤ 16
  addr : c.addr = 1 ∨ c.addr = 3
/-- A station. -/
structure St where
  state : Nat
  vs : Nat
  va : Nat
  vr : Nat
  vm : Nat
  queue : List Msg
  timer : Nat
  tries : Nat
  polling : Bool
  peer : Bool
  rejected : Bool
  busy : Bool
  came : List Msg
  out : List Msg
  events : List Nat
def St.fresh : St := ⟨0, 0, 0, 0, 0, [], 0, 0, false, false, false, false, [], [], []⟩
def ahead (c : Cfg) (s : St) (n : Nat) : Nat := (n + c.m - s.va) % c.m
def follow (c : Cfg) (n : Nat) : Nat := (n + 1) % c.m
def over (s : St) : St := { s with vs := 0, va := 0, vr := 0, vm := 0, queue := [], timer := 0, tries := 0, polling := false, peer := false, rejected := false }
def put (c : Cfg) (f : Fr) (s : St) : St := { s with out := s.out ++ [(writeL c.m f).2] }
def putC (c : Cfg) (f : Fr) (s : St) : St := put c { f with a := 4 - (c.addr : Int) } s
def putR (c : Cfg) (f : Fr) (s : St) : St := put c { f with a := (c.addr : Int) } s
def tell (e : Nat) (s : St) : St := { s with events := s.events ++ [e] }
def heldUp (c : Cfg) (s : St) : Bool := s.busy || decide (c.room ≤ s.came.length)
def ready (c : Cfg) (s : St) : Nat := if heldUp c s then 3 else 2
def answer (c : Cfg) (p : Bool) (s : St) : St := putR c ⟨0, ready c s, p, 0, s.vr, []⟩ s
def respond (c : Cfg) (k : Nat) (p : Bool) (s : St) : St := putR c ⟨0, k, p, 0, 0, []⟩ s
def report (c : Cfg) (p : Bool) (s : St) : St := putR c ⟨0, 9, p, 0, 0, List.replicate (repN c.m).toNat 0⟩ s
def ask (c : Cfg) (state kind : Nat) (s : St) : St := putC c ⟨0, kind, true, 0, 0, []⟩ { over s with state := state, tries := 1, timer := c.tim }
def callS (c : Cfg) (s : St) : St := ask c 1 5 s
def goDown (e : Nat) (s : St) : St := tell e { over s with state := 0 }
def comeUp (e : Nat) (s : St) : St := tell e { over s with state := 2 }
def accept (c : Cfg) (p : Bool) (e : Nat) (s : St) : St := respond c 7 p (comeUp e s)
def agree (c : Cfg) (p : Bool) (s : St) : St := goDown 3 (respond c 7 p s)
def maySend (c : Cfg) (s : St) : Bool := !s.peer && (decide (ahead c s s.vs < s.queue.length) && decide (ahead c s s.vs < c.win))
def upVm (c : Cfg) (s : St) : St := if ahead c s s.vm < ahead c s s.vs then { s with vm := s.vs } else s
def sendNext (c : Cfg) (s : St) : St :=
  upVm c { putC c ⟨0, 1, false, s.vs, s.vr, s.queue.getD (ahead c s s.vs) []⟩ s with vs := follow c s.vs }
def pumpN (c : Cfg) : Nat → St → St
  | 0, s => s
  | n + 1, s => if maySend c s then pumpN c n (sendNext c s) else s
def setTimer (c : Cfg) (s : St) : St :=
  if s.va = s.vm ∧ s.peer = false then { s with timer := 0 }
  else if s.timer = 0 then { s with timer := c.tim, tries := 1 } else s
def pump (c : Cfg) (s : St) : St := if s.polling then s else setTimer c (pumpN c 16 s)
def isCmd (c : Cfg) (f : Fr) : Bool := f.a == (c.addr : Int)
def isGood (c : Cfg) (s : St) (nr : Nat) : Bool := decide (ahead c s nr ≤ ahead c s s.vm)
def acknowledge (c : Cfg) (nr : Nat) (s : St) : St :=
  if ahead c s nr = 0 then s
  else { s with vs := if ahead c s s.vs < ahead c s nr then nr else s.vs, queue := s.queue.drop (ahead c s nr), va := nr, timer := if s.polling then s.timer else 0 }
def fallApart (c : Cfg) (f : Fr) (s : St) : St := tell 2 (report c (isCmd c f && f.p) { over s with state := 4 })
def hearReady (c : Cfg) (f : Fr) (s : St) : St :=
  let s1 := { s with peer := f.k == 3, vs := if f.k = 4 then f.nr.toNat else s.vs }
  if f.p = false then s1
  else if isCmd c f then answer c true s1
  else if s1.polling then { s1 with polling := false, vs := f.nr.toNat, timer := 0 } else s1
def hearMsg (c : Cfg) (f : Fr) (s : St) : St :=
  if heldUp c s then answer c f.p s
  else if f.ns = s.vr then answer c f.p { s with vr := follow c s.vr, came := s.came ++ [f.info], rejected := false }
  else if s.rejected = false then putR c ⟨0, 4, f.p, 0, s.vr, []⟩ { s with rejected := true }
  else if f.p then answer c true s else s
def hearNum (c : Cfg) (f : Fr) (s : St) : St :=
  if isGood c s f.nr.toNat = false then fallApart c f s
  else pump c (if f.k = 1 then hearMsg c f (acknowledge c f.nr.toNat s) else hearReady c f (acknowledge c f.nr.toNat s))
def heeds (c : Cfg) (f : Fr) : Bool :=
  if f.k = 1 ∨ f.k = 5 ∨ f.k = 6 then isCmd c f
  else if f.k = 7 ∨ f.k = 8 ∨ f.k = 9 then !isCmd c f else true
def hearDown (c : Cfg) (f : Fr) (s : St) : St :=
  if f.k = 5 then accept c f.p 1 s
  else if f.k = 6 then respond c 8 f.p s
  else if f.k = 1 ∨ f.k = 2 ∨ f.k = 3 ∨ f.k = 4 then (if isCmd c f && f.p then respond c 8 f.p s else s) else s
def hearCalling (c : Cfg) (f : Fr) (s : St) : St :=
  if f.k = 5 then respond c 7 f.p s
  else if f.k = 6 then respond c 8 f.p s
  else if f.k = 7 ∧ f.p = true then comeUp 1 s
  else if f.k = 8 ∧ f.p = true then goDown 4 s else s
def hearUp (c : Cfg) (f : Fr) (s : St) : St :=
  if f.k = 5 then accept c f.p 2 s
  else if f.k = 6 then agree c f.p s
  else if f.k = 8 then goDown 3 s
  else if f.k = 7 ∨ f.k = 9 then callS c (tell 2 s)
  else if f.k = 1 ∨ f.k = 2 ∨ f.k = 3 ∨ f.k = 4 then hearNum c f s else s
def hearLeaving (c : Cfg) (f : Fr) (s : St) : St :=
  if f.k = 5 then respond c 8 f.p s
  else if f.k = 6 then respond c 7 f.p s
  else if f.k = 7 ∨ f.k = 8 then (if f.p then goDown 3 s else s) else s
def hearBroken (c : Cfg) (f : Fr) (s : St) : St :=
  if f.k = 5 ∨ f.k = 6 ∨ f.k = 8 then hearUp c f s
  else if f.k = 1 ∨ f.k = 2 ∨ f.k = 3 ∨ f.k = 4 then (if isCmd c f then report c f.p s else s) else s
def hearFrame (c : Cfg) (f : Fr) (s : St) : St :=
  if s.state = 0 then hearDown c f s
  else if s.state = 1 then hearCalling c f s
  else if s.state = 2 then hearUp c f s
  else if s.state = 3 then hearLeaving c f s
  else if s.state = 4 then hearBroken c f s else s
/-- The calls: an error, and the station. -/
def connectS (c : Cfg) (s : St) : Nat × St := if s.state = 0 ∨ s.state = 4 then (0, callS c s) else (6, s)
def leaveS (c : Cfg) (s : St) : Nat × St := if s.state = 0 ∨ s.state = 3 then (6, s) else (0, ask c 3 6 s)
def sendS (c : Cfg) (b : Msg) (s : St) : Nat × St :=
  if s.state ≠ 2 then (6, s) else if 32 < b.length then (1, s) else if 20 ≤ s.queue.length then (7, s)
  else (0, pump c { s with queue := s.queue ++ [b] })
def change (c : Cfg) (was : Bool) (s : St) : St := if s.state = 2 ∧ heldUp c s ≠ was then answer c false s else s
def busyS (c : Cfg) (on : Bool) (s : St) : St := change c (heldUp c s) { s with busy := on }
def takenS (c : Cfg) (s : St) : St := change c (heldUp c s) { s with came := [] }
def hearS (c : Cfg) (b : Msg) (s : St) : Nat × St :=
  if (readL c.m b).1 ≠ 0 then ((readL c.m b).1, s)
  else (0, if heeds c (readL c.m b).2 then hearFrame c (readL c.m b).2 s else s)
def runOut (c : Cfg) (s : St) : St :=
  if s.tries = c.tri then goDown 4 s
  else if s.state = 1 then putC c ⟨0, 5, true, 0, 0, []⟩ { s with tries := s.tries + 1, timer := c.tim }
  else if s.state = 3 then putC c ⟨0, 6, true, 0, 0, []⟩ { s with tries := s.tries + 1, timer := c.tim }
  else if s.state = 2 then putC c ⟨0, ready c s, true, 0, s.vr, []⟩ { s with tries := s.tries + 1, timer := c.tim, polling := true }
  else { s with tries := s.tries + 1, timer := c.tim }
def tickS (c : Cfg) (s : St) : St :=
  if s.timer = 0 then s else if s.timer = 1 then runOut c { s with timer := 0 } else { s with timer := s.timer - 1 }
/-- What always holds of a station. -/
structure St.ok (c : Cfg) (s : St) : Prop where
  state : s.state ≤ 4
  vs : s.vs < c.m
  va : s.va < c.m
  vr : s.vr < c.m
  vm : s.vm < c.m
  svs : ahead c s s.vs ≤ ahead c s s.vm
  svm : ahead c s s.vm ≤ s.queue.length
  vmw : ahead c s s.vm ≤ c.win
  q20 : s.queue.length ≤ 20
  q32 : ∀ x ∈ s.queue, x.length ≤ 32
  timer : s.timer ≤ c.tim
  tim0 : s.state = 0 ∨ s.state = 4 → s.timer = 0
  tries : s.tries ≤ c.tri
  came : s.came.length ≤ c.room
  down : s.state ≠ 2 → s.queue = [] ∧ s.polling = false ∧ s.peer = false ∧ s.vs = 0 ∧ s.va = 0 ∧ s.vm = 0 ∧ s.vr = 0 ∧ s.rejected = false
end Go.Proofs.YtkalonhalhdlaaaGreatDoor

/-
  What always holds of a station: each call keeps it.
-/
namespace Go.Proofs.YtkalonhalhdlaaaGreatDoor
open Go
section
variable {c : Cfg} {s : St}
theorem Cfg.ok.pos (hc : c.ok) : 0 < c.m := by
  have := hc.m
  omega
theorem follow_lt (hc : c.ok) (n : Nat) : follow c n < c.m := Nat.mod_lt _ hc.pos
theorem round_follow {m n a : Nat} (hm : m = 8 ∨ m = 128) (hn : n < m) (ha : a < m) (h : (n + m - a) % m + 1 < m) : ((n + 1) % m + m - a) % m = (n + m - a) % m + 1 := by
  rcases hm with rfl | rfl <;> omega
theorem round_zero {m n a : Nat} (hm : m = 8 ∨ m = 128) (hn : n < m) (ha : a < m) (h : (n + m - a) % m = 0) : n = a := by
  rcases hm with rfl | rfl <;> omega
theorem round_same {m a : Nat} (hm : m = 8 ∨ m = 128) (ha : a < m) : (a + m - a) % m = 0 := by
  rcases hm with rfl | rfl <;> omega
theorem round_inj {m a n k : Nat} (hm : m = 8 ∨ m = 128) (ha : a < m) (hn : n < m) (hk : k < m) (h : (n + m - a) % m = (k + m - a) % m) : n = k := by
  rcases hm with rfl | rfl <;> omega
theorem round_from {m a n x : Nat} (hm : m = 8 ∨ m = 128) (ha : a < m) (hn : n < m) (hx : x < m) (h : (n + m - a) % m ≤ (x + m - a) % m) : (x + m - n) % m = (x + m - a) % m - (n + m - a) % m := by
  rcases hm with rfl | rfl <;> omega
theorem ahead_follow (hc : c.ok) {n : Nat} (hn : n < c.m) (ha : s.va < c.m) (h : ahead c s n + 1 < c.m) : ahead c s (follow c n) = ahead c s n + 1 := round_follow hc.m hn ha h
theorem ahead_va (hc : c.ok) (ha : s.va < c.m) : ahead c s s.va = 0 := round_same hc.m ha
theorem ahead_zero (hc : c.ok) (ha : s.va < c.m) {n : Nat} (hn : n < c.m) (h : ahead c s n = 0) : n = s.va := round_zero hc.m hn ha h
theorem ahead_inj (hc : c.ok) (ha : s.va < c.m) {n k : Nat} (hn : n < c.m) (hk : k < c.m) (h : ahead c s n = ahead c s k) : n = k := round_inj hc.m ha hn hk h
/-- Numbers from another oldest one on. -/
theorem ahead_from (hc : c.ok) (ha : s.va < c.m) {n x : Nat} (hn : n < c.m) (hx : x < c.m) (h : ahead c s n ≤ ahead c s x) (t : St) (ht : t.va = n) : ahead c t x = ahead c s x - ahead c s n := by
  unfold ahead at *
  rw [ht]
  exact round_from hc.m ha hn hx h
theorem st_fresh_ok (hc : c.ok) : St.ok c St.fresh := by
  have hm := hc.pos
  refine ⟨by simp [St.fresh], hm, hm, hm, hm, ?_, ?_, ?_, by simp [St.fresh], by simp [St.fresh], by simp [St.fresh], by simp [St.fresh], by simp [St.fresh], by simp [St.fresh], by simp [St.fresh]⟩
  · exact Nat.le_refl _
  · simp [St.fresh, ahead]
  · simp [St.fresh, ahead]
theorem over_ok (hc : c.ok) (h : St.ok c s) (k : Nat) (hk : k ≤ 4) (tm tr : Nat) (htm : tm ≤ c.tim) (htr : tr ≤ c.tri) (h0 : k = 0 ∨ k = 4 → tm = 0) : St.ok c { over s with state := k, timer := tm, tries := tr } := by
  have hm := hc.pos
  refine ⟨hk, hm, hm, hm, hm, ?_, ?_, ?_, by simp [over], by simp [over], htm, h0, htr, h.came, fun _ => ⟨rfl, rfl, rfl, rfl, rfl, rfl, rfl, rfl⟩⟩
  · exact Nat.le_refl _
  · simp [over, ahead]
  · simp [over, ahead]
theorem put_ok (f : Fr) (h : St.ok c s) : St.ok c (put c f s) := ⟨h.state, h.vs, h.va, h.vr, h.vm, h.svs, h.svm, h.vmw, h.q20, h.q32, h.timer, h.tim0, h.tries, h.came, h.down⟩
theorem putC_ok (f : Fr) (h : St.ok c s) : St.ok c (putC c f s) := put_ok _ h
theorem putR_ok (f : Fr) (h : St.ok c s) : St.ok c (putR c f s) := put_ok _ h
theorem tell_ok (e : Nat) (h : St.ok c s) : St.ok c (tell e s) := ⟨h.state, h.vs, h.va, h.vr, h.vm, h.svs, h.svm, h.vmw, h.q20, h.q32, h.timer, h.tim0, h.tries, h.came, h.down⟩
theorem answer_ok (p : Bool) (h : St.ok c s) : St.ok c (answer c p s) := putR_ok _ h
theorem respond_ok (k : Nat) (p : Bool) (h : St.ok c s) : St.ok c (respond c k p s) := putR_ok _ h
theorem report_ok (p : Bool) (h : St.ok c s) : St.ok c (report c p s) := putR_ok _ h
theorem ask_ok (hc : c.ok) (h : St.ok c s) (k kind : Nat) (hk : k = 1 ∨ k = 3) : St.ok c (ask c k kind s) :=
  putC_ok _ (over_ok hc h k (by omega) c.tim 1 (Nat.le_refl _) hc.tri1 (by omega))
theorem callS_ok (hc : c.ok) (h : St.ok c s) : St.ok c (callS c s) := ask_ok hc h 1 5 (.inl rfl)
theorem goDown_ok (hc : c.ok) (h : St.ok c s) (e : Nat) : St.ok c (goDown e s) :=
  tell_ok _ (over_ok hc h 0 (by omega) 0 0 (Nat.zero_le _) (Nat.zero_le _) (by omega))
theorem comeUp_ok (hc : c.ok) (h : St.ok c s) (e : Nat) : St.ok c (comeUp e s) :=
  tell_ok _ (over_ok hc h 2 (by omega) 0 0 (Nat.zero_le _) (Nat.zero_le _) (by omega))
theorem accept_ok (hc : c.ok) (h : St.ok c s) (p : Bool) (e : Nat) : St.ok c (accept c p e s) := respond_ok _ _ (comeUp_ok hc h e)
theorem agree_ok (hc : c.ok) (h : St.ok c s) (p : Bool) : St.ok c (agree c p s) := goDown_ok hc (respond_ok _ _ h) _
theorem maySend_iff : maySend c s = true ↔ s.peer = false ∧ ahead c s s.vs < s.queue.length ∧ ahead c s s.vs < c.win := by
  simp [maySend]
theorem sendNext_va : (sendNext c s).va = s.va := by unfold sendNext upVm; split <;> rfl
theorem sendNext_vs : (sendNext c s).vs = follow c s.vs := by unfold sendNext upVm; split <;> rfl
theorem sendNext_queue : (sendNext c s).queue = s.queue := by unfold sendNext upVm; split <;> rfl
theorem sendNext_state : (sendNext c s).state = s.state := by unfold sendNext upVm; split <;> rfl
theorem sendNext_polling : (sendNext c s).polling = s.polling := by unfold sendNext upVm; split <;> rfl
theorem sendNext_ahead (hc : c.ok) (h : St.ok c s) (hm : maySend c s = true) : ahead c (sendNext c s) (sendNext c s).vs = ahead c s s.vs + 1 := by
  obtain ⟨_, _, h3⟩ := maySend_iff.1 hm
  rw [sendNext_vs]
  show (_ + c.m - (sendNext c s).va) % c.m = _
  rw [sendNext_va]
  exact ahead_follow hc h.vs h.va (by have := hc.winm; omega)
theorem sendNext_ok (hc : c.ok) (h : St.ok c s) (hm : maySend c s = true) (h2 : s.state = 2) : St.ok c (sendNext c s) := by
  obtain ⟨h1, h2', h3⟩ := maySend_iff.1 hm
  have hf := ahead_follow hc h.vs h.va (show ahead c s s.vs + 1 < c.m by have := hc.winm; omega)
  have hfl := follow_lt hc s.vs
  have e1 : ∀ n, ahead c { putC c ⟨0, 1, false, s.vs, s.vr, s.queue.getD (ahead c s s.vs) []⟩ s with vs := follow c s.vs } n = ahead c s n := fun n => rfl
  unfold sendNext upVm
  rw [e1, e1]
  split
  · refine ⟨h.state, hfl, h.va, h.vr, hfl, Nat.le_refl _, ?_, ?_, h.q20, h.q32, h.timer, h.tim0, h.tries, h.came, fun hh => absurd h2 hh⟩
    · show ahead c s (follow c s.vs) ≤ s.queue.length
      omega
    · show ahead c s (follow c s.vs) ≤ c.win
      omega
  · refine ⟨h.state, hfl, h.va, h.vr, h.vm, ?_, h.svm, h.vmw, h.q20, h.q32, h.timer, h.tim0, h.tries, h.came, fun hh => absurd h2 hh⟩
    show ahead c s (follow c s.vs) ≤ ahead c s s.vm
    rename_i hn
    have hn' : ¬ ahead c s s.vm < ahead c s (follow c s.vs) := hn
    omega
theorem pumpN_ok (hc : c.ok) (n : Nat) : ∀ {s : St}, St.ok c s → s.state = 2 → St.ok c (pumpN c n s) ∧ (pumpN c n s).state = 2 := by
  induction n with
  | zero => intro s h h2; exact ⟨h, h2⟩
  | succ n ih =>
    intro s h h2
    unfold pumpN
    by_cases hm : maySend c s = true
    · rw [if_pos hm]
      exact ih (sendNext_ok hc h hm h2) (sendNext_state.trans h2)
    · rw [if_neg hm]
      exact ⟨h, h2⟩
theorem setTimer_ok (hc : c.ok) (h : St.ok c s) (h2 : s.state = 2) : St.ok c (setTimer c s) := by
  unfold setTimer
  split
  · exact ⟨h.state, h.vs, h.va, h.vr, h.vm, h.svs, h.svm, h.vmw, h.q20, h.q32, Nat.zero_le _, fun _ => rfl, h.tries, h.came, fun hh => absurd h2 hh⟩
  · split
    · exact ⟨h.state, h.vs, h.va, h.vr, h.vm, h.svs, h.svm, h.vmw, h.q20, h.q32, Nat.le_refl _, fun hh => by simp only at hh; omega, hc.tri1, h.came, fun hh => absurd h2 hh⟩
    · exact h
theorem pump_ok (hc : c.ok) (h : St.ok c s) (h2 : s.state = 2) : St.ok c (pump c s) := by
  unfold pump
  split
  · exact h
  · have := pumpN_ok hc 16 h h2
    exact setTimer_ok hc this.1 this.2
theorem acknowledge_va (hc : c.ok) (h : St.ok c s) {nr : Nat} (hn : nr < c.m) : (acknowledge c nr s).va = nr := by
  unfold acknowledge
  split
  · rename_i h0
    exact (ahead_zero hc h.va hn h0).symm
  · rfl
theorem acknowledge_state {nr : Nat} : (acknowledge c nr s).state = s.state := by unfold acknowledge; split <;> rfl
theorem acknowledge_ok (hc : c.ok) (h : St.ok c s) (h2 : s.state = 2) {nr : Nat} (hn : nr < c.m) (hg : isGood c s nr = true) : St.ok c (acknowledge c nr s) := by
  have hg' : ahead c s nr ≤ ahead c s s.vm := by simpa [isGood] using hg
  unfold acknowledge
  split
  · exact h
  · rename_i h0
    have hvs : (if ahead c s s.vs < ahead c s nr then nr else s.vs) < c.m := by split; exact hn; exact h.vs
    generalize ht : ({ s with vs := if ahead c s s.vs < ahead c s nr then nr else s.vs, queue := s.queue.drop (ahead c s nr), va := nr, timer := if s.polling then s.timer else 0 } : St) = t
    have hta : t.va = nr := by rw [← ht]
    have htm : t.vm = s.vm := by rw [← ht]
    have hts : t.vs = if ahead c s s.vs < ahead c s nr then nr else s.vs := by rw [← ht]
    have htq : t.queue = s.queue.drop (ahead c s nr) := by rw [← ht]
    have e1 : ahead c t t.vm = ahead c s s.vm - ahead c s nr := by rw [htm]; exact ahead_from hc h.va hn h.vm hg' t hta
    have e2 : ahead c t t.vs ≤ ahead c t t.vm := by
      rw [e1, hts]
      split
      · have : ahead c t nr = 0 := by rw [← hta]; exact ahead_va hc (by rw [hta]; exact hn)
        omega
      · rw [ahead_from hc h.va hn h.vs (by omega) t hta]
        have := h.svs
        omega
    have e3 : ahead c t t.vm ≤ t.queue.length := by rw [e1, htq, List.length_drop]; have := h.svm; omega
    have e4 : ahead c t t.vm ≤ c.win := by rw [e1]; have := h.vmw; omega
    have e5 : t.queue.length ≤ 20 := by rw [htq, List.length_drop]; have := h.q20; omega
    have e6 : ∀ x ∈ t.queue, x.length ≤ 32 := by rw [htq]; exact fun x hx => h.q32 x (List.mem_of_mem_drop hx)
    have e7 : t.timer ≤ c.tim := by rw [← ht]; show (if s.polling then s.timer else 0) ≤ _; split; exact h.timer; exact Nat.zero_le _
    have e8 : t.state = 2 := by rw [← ht]; exact h2
    exact ⟨by omega, by rw [hts]; exact hvs, by rw [hta]; exact hn, by rw [← ht]; exact h.vr, by rw [htm]; exact h.vm, e2, e3, e4, e5, e6, e7, fun hh => by omega, by rw [← ht]; exact h.tries, by rw [← ht]; exact h.came, fun hh => absurd e8 hh⟩
theorem setVs_ok (hc : c.ok) (h : St.ok c s) (h2 : s.state = 2) (p b : Bool) (tm : Nat) (htm : tm ≤ c.tim) : St.ok c { s with vs := s.va, peer := p, polling := b, timer := tm } :=
  ⟨h.state, h.va, h.va, h.vr, h.vm, by show ahead c s s.va ≤ ahead c s s.vm; rw [ahead_va hc h.va]; exact Nat.zero_le _, h.svm, h.vmw, h.q20, h.q32, htm, fun hh => by simp only at hh; omega, h.tries, h.came, fun hh => absurd h2 hh⟩
theorem setPeer_ok (h : St.ok c s) (h2 : s.state = 2) (p : Bool) : St.ok c { s with peer := p } :=
  ⟨h.state, h.vs, h.va, h.vr, h.vm, h.svs, h.svm, h.vmw, h.q20, h.q32, h.timer, h.tim0, h.tries, h.came, fun hh => absurd h2 hh⟩
theorem hearReady_ok (hc : c.ok) (h : St.ok c s) (h2 : s.state = 2) (f : Fr) (hn : s.va = f.nr.toNat) : St.ok c (hearReady c f s) := by
  have h1 : St.ok c { s with peer := f.k == 3, vs := if f.k = 4 then f.nr.toNat else s.vs } := by
    split
    · rw [← hn]
      exact setVs_ok hc h h2 (f.k == 3) s.polling s.timer h.timer
    · exact setPeer_ok h h2 _
  have h3 : St.ok c { s with peer := f.k == 3, vs := f.nr.toNat, polling := false, timer := 0 } := by
    rw [← hn]
    exact setVs_ok hc h h2 (f.k == 3) false 0 (Nat.zero_le _)
  unfold hearReady
  dsimp only
  split
  · exact h1
  · split
    · exact answer_ok _ h1
    · split
      · exact h3
      · exact h1
theorem hearReady_state (f : Fr) : (hearReady c f s).state = s.state := by
  unfold hearReady
  dsimp only
  split
  · rfl
  · split
    · rfl
    · split <;> rfl
theorem hearMsg_ok (hc : c.ok) (h : St.ok c s) (h2 : s.state = 2) (f : Fr) : St.ok c (hearMsg c f s) := by
  unfold hearMsg
  split
  · exact answer_ok _ h
  · rename_i hu
    split
    · refine answer_ok _ ⟨h.state, h.vs, h.va, follow_lt hc _, h.vm, h.svs, h.svm, h.vmw, h.q20, h.q32, h.timer, h.tim0, h.tries, ?_, fun hh => absurd h2 hh⟩
      simp [heldUp] at hu
      simp
      omega
    · split
      · exact putR_ok _ ⟨h.state, h.vs, h.va, h.vr, h.vm, h.svs, h.svm, h.vmw, h.q20, h.q32, h.timer, h.tim0, h.tries, h.came, fun hh => absurd h2 hh⟩
      · split
        · exact answer_ok _ h
        · exact h
theorem hearMsg_state (f : Fr) : (hearMsg c f s).state = s.state := by
  unfold hearMsg
  split
  · rfl
  · split
    · rfl
    · split
      · rfl
      · split <;> rfl
theorem fallApart_ok (hc : c.ok) (h : St.ok c s) (f : Fr) : St.ok c (fallApart c f s) :=
  tell_ok _ (report_ok _ (over_ok hc h 4 (by omega) 0 0 (Nat.zero_le _) (Nat.zero_le _) (fun _ => rfl)))
theorem hearNum_ok (hc : c.ok) (h : St.ok c s) (h2 : s.state = 2) (f : Fr) (hn : f.nr.toNat < c.m) : St.ok c (hearNum c f s) := by
  unfold hearNum
  split
  · exact fallApart_ok hc h f
  · rename_i hg
    have hg' : isGood c s f.nr.toNat = true := eq_true_of_ne_false hg
    have ha := acknowledge_ok hc h h2 hn hg'
    have hs : (acknowledge c f.nr.toNat s).state = 2 := acknowledge_state.trans h2
    split
    · exact pump_ok hc (hearMsg_ok hc ha hs f) ((hearMsg_state f).trans hs)
    · exact pump_ok hc (hearReady_ok hc ha hs f (acknowledge_va hc h hn)) ((hearReady_state f).trans hs)
theorem hearUp_ok (hc : c.ok) (h : St.ok c s) {f : Fr} (h2 : s.state = 2 ∨ f.k = 5 ∨ f.k = 6 ∨ f.k = 8) (hn : f.nr.toNat < c.m) : St.ok c (hearUp c f s) := by
  unfold hearUp
  split
  · exact accept_ok hc h _ _
  · split
    · exact agree_ok hc h _
    · split
      · exact goDown_ok hc h _
      · split
        · exact callS_ok hc (tell_ok _ h)
        · split
          · exact hearNum_ok hc h (by omega) f hn
          · exact h
theorem hearFrame_ok (hc : c.ok) (h : St.ok c s) (f : Fr) (hn : f.nr.toNat < c.m) : St.ok c (hearFrame c f s) := by
  unfold hearFrame
  split
  · unfold hearDown
    split
    · exact accept_ok hc h _ _
    · split
      · exact respond_ok _ _ h
      · split
        · split
          · exact respond_ok _ _ h
          · exact h
        · exact h
  · split
    · unfold hearCalling
      split
      · exact respond_ok _ _ h
      · split
        · exact respond_ok _ _ h
        · split
          · exact comeUp_ok hc h _
          · split
            · exact goDown_ok hc h _
            · exact h
    · split
      · exact hearUp_ok hc h (.inl (by assumption)) hn
      · split
        · unfold hearLeaving
          split
          · exact respond_ok _ _ h
          · split
            · exact respond_ok _ _ h
            · split
              · split
                · exact goDown_ok hc h _
                · exact h
              · exact h
        · split
          · unfold hearBroken
            split
            · exact hearUp_ok hc h (.inr (by assumption)) hn
            · split
              · split
                · exact report_ok _ h
                · exact h
              · exact h
          · exact h
theorem connectS_ok (hc : c.ok) (h : St.ok c s) : St.ok c (connectS c s).2 := by
  unfold connectS
  split
  · exact callS_ok hc h
  · exact h
theorem leaveS_ok (hc : c.ok) (h : St.ok c s) : St.ok c (leaveS c s).2 := by
  unfold leaveS
  split
  · exact h
  · exact ask_ok hc h 3 6 (.inr rfl)
theorem sendS_ok (hc : c.ok) (h : St.ok c s) (b : Msg) : St.ok c (sendS c b s).2 := by
  unfold sendS
  split
  · exact h
  · rename_i h2
    split
    · exact h
    · rename_i hb
      split
      · exact h
      · rename_i hq
        have h2' : s.state = 2 := by omega
        refine pump_ok hc ⟨h.state, h.vs, h.va, h.vr, h.vm, h.svs, ?_, h.vmw, ?_, ?_, h.timer, h.tim0, h.tries, h.came, fun hh => absurd h2' hh⟩ h2'
        · have := h.svm
          show ahead c s s.vm ≤ (s.queue ++ [b]).length
          rw [List.length_append]
          omega
        · show (s.queue ++ [b]).length ≤ 20
          simp
          omega
        · intro x hx
          rcases List.mem_append.1 hx with hx | hx
          · exact h.q32 x hx
          · simp at hx
            subst hx
            omega
theorem change_ok (h : St.ok c s) (was : Bool) : St.ok c (change c was s) := by
  unfold change
  split
  · exact answer_ok _ h
  · exact h
theorem busyS_ok (h : St.ok c s) (on : Bool) : St.ok c (busyS c on s) :=
  change_ok (s := { s with busy := on }) ⟨h.state, h.vs, h.va, h.vr, h.vm, h.svs, h.svm, h.vmw, h.q20, h.q32, h.timer, h.tim0, h.tries, h.came, h.down⟩ _
theorem takenS_ok (h : St.ok c s) : St.ok c (takenS c s) :=
  change_ok (s := { s with came := [] }) ⟨h.state, h.vs, h.va, h.vr, h.vm, h.svs, h.svm, h.vmw, h.q20, h.q32, h.timer, h.tim0, h.tries, Nat.zero_le _, h.down⟩ _
theorem outS_ok (h : St.ok c s) (o : List Msg) : St.ok c { s with out := o } :=
  ⟨h.state, h.vs, h.va, h.vr, h.vm, h.svs, h.svm, h.vmw, h.q20, h.q32, h.timer, h.tim0, h.tries, h.came, h.down⟩
theorem eventsS_ok (h : St.ok c s) (o : List Nat) : St.ok c { s with events := o } :=
  ⟨h.state, h.vs, h.va, h.vr, h.vm, h.svs, h.svm, h.vmw, h.q20, h.q32, h.timer, h.tim0, h.tries, h.came, h.down⟩
theorem tickS_ok (hc : c.ok) (h : St.ok c s) : St.ok c (tickS c s) := by
  unfold tickS
  split
  · exact h
  · rename_i h0
    have hst : s.state ≠ 0 ∧ s.state ≠ 4 := ⟨fun e => h0 (h.tim0 (.inl e)), fun e => h0 (h.tim0 (.inr e))⟩
    split
    · unfold runOut
      split
      · exact goDown_ok (s := { s with timer := 0 }) hc ⟨h.state, h.vs, h.va, h.vr, h.vm, h.svs, h.svm, h.vmw, h.q20, h.q32, Nat.zero_le _, fun _ => rfl, h.tries, h.came, h.down⟩ _
      · rename_i ht
        have ht' : s.tries + 1 ≤ c.tri := by have := h.tries; simp only at ht; omega
        have hh : St.ok c { s with tries := s.tries + 1, timer := c.tim } := ⟨h.state, h.vs, h.va, h.vr, h.vm, h.svs, h.svm, h.vmw, h.q20, h.q32, Nat.le_refl _, fun hh => by simp only at hh; omega, ht', h.came, h.down⟩
        split
        · exact putC_ok _ hh
        · split
          · exact putC_ok _ hh
          · split
            · rename_i h2
              exact putC_ok _ ⟨h.state, h.vs, h.va, h.vr, h.vm, h.svs, h.svm, h.vmw, h.q20, h.q32, Nat.le_refl _, fun hh => by simp only at hh; omega, ht', h.came, fun hh => absurd h2 hh⟩
            · exact hh
    · exact ⟨h.state, h.vs, h.va, h.vr, h.vm, h.svs, h.svm, h.vmw, h.q20, h.q32, by show s.timer - 1 ≤ _; have := h.timer; omega, fun hh => by simp only at hh; omega, h.tries, h.came, h.down⟩
end
end Go.Proofs.YtkalonhalhdlaaaGreatDoor

/-
  How much a call of a station can put out, and tell.
-/
namespace Go.Proofs.YtkalonhalhdlaaaGreatDoor
open Go
theorem writeL_len64 (m : Int) (f : Fr) : (writeL m f).2.length ≤ 64 := by
  unfold writeL
  split
  · simp
  · split
    · simp
    · split
      · simp
      · rename_i h
        have h' : infoF m f.k f.info.length = true := by simpa using h
        have hl : f.info.length ≤ 32 := by
          unfold infoF repN at h'
          split at h'
          · have := of_decide_eq_true h'; omega
          · split at h'
            · have := eq_of_beq h'; split at this <;> omega
            · have := eq_of_beq h'; omega
        have hc : (ctlL m.toNat f.k.toNat f.ns.toNat f.nr.toNat f.p).length ≤ 2 := by unfold ctlL; split <;> simp
        simp only [List.length_cons, List.length_append]
        omega
/-- At most a frames more have gone out, at most e events more were told. -/
def Grows (a e : Nat) (s s' : St) : Prop := (∃ x, s'.out = s.out ++ x ∧ x.length ≤ a ∧ ∀ m ∈ x, m.length ≤ 64) ∧ ∃ y, s'.events = s.events ++ y ∧ y.length ≤ e
section
variable {c : Cfg} {s t u : St} {a e a' e' : Nat}
theorem Grows.same (h1 : t.out = s.out) (h2 : t.events = s.events) : Grows a e s t := ⟨⟨[], by simp [h1], by simp, by simp⟩, [], by simp [h2], by simp⟩
theorem Grows.trans (h : Grows a e s t) (k : Grows a' e' t u) : Grows (a + a') (e + e') s u := by
  obtain ⟨⟨x, x1, x2, x3⟩, y, y1, y2⟩ := h
  obtain ⟨⟨x', z1, z2, z3⟩, y', w1, w2⟩ := k
  refine ⟨⟨x ++ x', by rw [z1, x1, List.append_assoc], by simp; omega, fun m hm => ?_⟩, y ++ y', by rw [w1, y1, List.append_assoc], by simp; omega⟩
  rcases List.mem_append.1 hm with hm | hm
  · exact x3 m hm
  · exact z3 m hm
theorem Grows.mono (h : Grows a e s t) (h1 : a ≤ a') (h2 : e ≤ e') : Grows a' e' s t := by
  obtain ⟨⟨x, x1, x2, x3⟩, y, y1, y2⟩ := h
  exact ⟨⟨x, x1, by omega, x3⟩, y, y1, by omega⟩
theorem Grows.of (h : Grows a e t u) (h1 : t.out = s.out) (h2 : t.events = s.events) : Grows a e s u := by
  obtain ⟨⟨x, x1, x2, x3⟩, y, y1, y2⟩ := h
  exact ⟨⟨x, by rw [x1, h1], x2, x3⟩, y, by rw [y1, h2], y2⟩
theorem put_grows (f : Fr) : Grows 1 0 s (put c f s) := ⟨⟨[_], rfl, by simp, fun m hm => by simp at hm; rw [hm]; exact writeL_len64 _ _⟩, [], by simp [put], by simp⟩
theorem putC_grows (f : Fr) : Grows 1 0 s (putC c f s) := put_grows _
theorem putR_grows (f : Fr) : Grows 1 0 s (putR c f s) := put_grows _
theorem answer_grows (p : Bool) : Grows 1 0 s (answer c p s) := putR_grows _
theorem respond_grows (k : Nat) (p : Bool) : Grows 1 0 s (respond c k p s) := putR_grows _
theorem report_grows (p : Bool) : Grows 1 0 s (report c p s) := putR_grows _
theorem tell_grows (n : Nat) : Grows 0 1 s (tell n s) := ⟨⟨[], by simp [tell], by simp, by simp⟩, [n], rfl, by simp⟩
theorem ask_grows (k kd : Nat) : Grows 1 0 s (ask c k kd s) := Grows.of (putC_grows _) rfl rfl
theorem goDown_grows (n : Nat) : Grows 0 1 s (goDown n s) := Grows.of (tell_grows _) rfl rfl
theorem comeUp_grows (n : Nat) : Grows 0 1 s (comeUp n s) := Grows.of (tell_grows _) rfl rfl
theorem accept_grows (p : Bool) (n : Nat) : Grows 1 1 s (accept c p n s) := (comeUp_grows n).trans (respond_grows _ _)
theorem agree_grows (p : Bool) : Grows 1 1 s (agree c p s) := (respond_grows _ _).trans (goDown_grows _)
theorem sendNext_grows : Grows 1 0 s (sendNext c s) := by
  unfold sendNext upVm
  split
  · exact (putC_grows (c := c) ⟨0, 1, false, s.vs, s.vr, s.queue.getD (ahead c s s.vs) []⟩).trans (a' := 0) (e' := 0) (Grows.same rfl rfl)
  · exact (putC_grows (c := c) ⟨0, 1, false, s.vs, s.vr, s.queue.getD (ahead c s s.vs) []⟩).trans (a' := 0) (e' := 0) (Grows.same rfl rfl)
theorem pumpN_grows (n : Nat) : ∀ s : St, Grows n 0 s (pumpN c n s) := by
  induction n with
  | zero => exact fun s => Grows.same rfl rfl
  | succ n ih =>
    intro s
    unfold pumpN
    split
    · exact ((sendNext_grows).trans (ih _)).mono (by omega) (by omega)
    · exact Grows.same rfl rfl
theorem setTimer_grows : Grows 0 0 s (setTimer c s) := by
  unfold setTimer
  split
  · exact Grows.same rfl rfl
  · split <;> exact Grows.same rfl rfl
theorem pump_grows : Grows 16 0 s (pump c s) := by
  unfold pump
  split
  · exact Grows.same rfl rfl
  · exact (pumpN_grows 16 s).trans setTimer_grows
theorem acknowledge_grows (nr : Nat) : Grows 0 0 s (acknowledge c nr s) := by
  unfold acknowledge
  split <;> exact Grows.same rfl rfl
theorem fallApart_grows (f : Fr) : Grows 1 1 s (fallApart c f s) := by
  unfold fallApart
  exact Grows.of ((report_grows (c := c) (isCmd c f && f.p)).trans (tell_grows 2)) rfl rfl
theorem hearReady_grows (f : Fr) : Grows 1 0 s (hearReady c f s) := by
  unfold hearReady
  dsimp only
  split
  · exact Grows.same rfl rfl
  · split
    · exact Grows.of (answer_grows _) rfl rfl
    · split <;> exact Grows.same rfl rfl
theorem hearMsg_grows (f : Fr) : Grows 1 0 s (hearMsg c f s) := by
  unfold hearMsg
  split
  · exact answer_grows _
  · split
    · exact Grows.of (answer_grows _) rfl rfl
    · split
      · exact Grows.of (putR_grows _) rfl rfl
      · split
        · exact answer_grows _
        · exact Grows.same rfl rfl
theorem hearNum_grows (f : Fr) : Grows 17 1 s (hearNum c f s) := by
  unfold hearNum
  split
  · exact (fallApart_grows f).mono (by omega) (by omega)
  · refine Grows.mono (Grows.trans (a := 1) (e := 0) ?_ pump_grows) (by omega) (by omega)
    split
    · exact ((acknowledge_grows _).trans (hearMsg_grows f)).mono (by omega) (by omega)
    · exact ((acknowledge_grows _).trans (hearReady_grows f)).mono (by omega) (by omega)
theorem hearUp_grows (f : Fr) : Grows 17 1 s (hearUp c f s) := by
  unfold hearUp
  split
  · exact (accept_grows _ _).mono (by omega) (by omega)
  · split
    · exact (agree_grows _).mono (by omega) (by omega)
    · split
      · exact (goDown_grows _).mono (by omega) (by omega)
      · split
        · exact ((tell_grows 2).trans (ask_grows (c := c) 1 5)).mono (by omega) (by omega)
        · split
          · exact hearNum_grows f
          · exact Grows.same rfl rfl
theorem hearFrame_grows (f : Fr) : Grows 17 1 s (hearFrame c f s) := by
  unfold hearFrame
  split
  · unfold hearDown
    split
    · exact (accept_grows _ _).mono (by omega) (by omega)
    · split
      · exact (respond_grows _ _).mono (by omega) (by omega)
      · split
        · split
          · exact (respond_grows _ _).mono (by omega) (by omega)
          · exact Grows.same rfl rfl
        · exact Grows.same rfl rfl
  · split
    · unfold hearCalling
      split
      · exact (respond_grows _ _).mono (by omega) (by omega)
      · split
        · exact (respond_grows _ _).mono (by omega) (by omega)
        · split
          · exact (comeUp_grows _).mono (by omega) (by omega)
          · split
            · exact (goDown_grows _).mono (by omega) (by omega)
            · exact Grows.same rfl rfl
    · split
      · exact hearUp_grows f
      · split
        · unfold hearLeaving
          split
          · exact (respond_grows _ _).mono (by omega) (by omega)
          · split
            · exact (respond_grows _ _).mono (by omega) (by omega)
            · split
              · split
                · exact (goDown_grows _).mono (by omega) (by omega)
                · exact Grows.same rfl rfl
              · exact Grows.same rfl rfl
        · split
          · unfold hearBroken
            split
            · exact hearUp_grows f
            · split
              · split
                · exact (report_grows _).mono (by omega) (by omega)
                · exact Grows.same rfl rfl
              · exact Grows.same rfl rfl
          · exact Grows.same rfl rfl
theorem hearS_grows (b : Msg) : Grows 18 2 s (hearS c b s).2 := by
  unfold hearS
  split
  · exact Grows.same rfl rfl
  · split
    · exact (hearFrame_grows _).mono (by omega) (by omega)
    · exact Grows.same rfl rfl
theorem sendS_grows (b : Msg) : Grows 18 2 s (sendS c b s).2 := by
  unfold sendS
  split
  · exact Grows.same rfl rfl
  · split
    · exact Grows.same rfl rfl
    · split
      · exact Grows.same rfl rfl
      · exact Grows.of (pump_grows.mono (by omega) (by omega)) rfl rfl
theorem change_grows (was : Bool) : Grows 1 0 s (change c was s) := by
  unfold change
  split
  · exact answer_grows _
  · exact Grows.same rfl rfl
theorem busyS_grows (on : Bool) : Grows 18 2 s (busyS c on s) := Grows.of ((change_grows _).mono (by omega) (by omega)) rfl rfl
theorem takenS_grows : Grows 18 2 s (takenS c s) := Grows.of ((change_grows _).mono (by omega) (by omega)) rfl rfl
theorem runOut_grows : Grows 1 1 s (runOut c s) := by
  unfold runOut
  split
  · exact (goDown_grows _).mono (by omega) (by omega)
  · split
    · exact Grows.of ((putC_grows _).mono (by omega) (by omega)) rfl rfl
    · split
      · exact Grows.of ((putC_grows _).mono (by omega) (by omega)) rfl rfl
      · split
        · exact Grows.of ((putC_grows _).mono (by omega) (by omega)) rfl rfl
        · exact Grows.same rfl rfl
theorem tickS_grows : Grows 18 2 s (tickS c s) := by
  unfold tickS
  split
  · exact Grows.same rfl rfl
  · split
    · exact Grows.of (runOut_grows.mono (by omega) (by omega)) rfl rfl
    · exact Grows.same rfl rfl
end
end Go.Proofs.YtkalonhalhdlaaaGreatDoor

/-
  How much can be waiting to be sent: a bound that grows by a constant a step, however much is carried.
-/
namespace Go.Proofs.YtkalonhalhdlaaaGreatDoor
open Go
/-- A frame's kind by its control's first byte. -/
def ctlB : Msg → Nat
  | _ :: c :: _ => c.toNat
  | _ => 1
/-- It has a message; it has no numbers; it is a rejection. -/
def kI (b : Msg) : Bool := decide (ctlB b % 2 = 0)
def kU (b : Msg) : Bool := decide (ctlB b % 4 = 3)
def kR (b : Msg) : Bool := decide (ctlB b % 16 = 9)
/-- Was the last of the first two kinds one without numbers? -/
def nxt (lu : Bool) (b : Msg) : Bool := if kU b then true else if kI b then false else lu
def hit (lu : Bool) (b : Msg) : Nat := if kI b && lu then 1 else 0
def lastU : Bool → List Msg → Bool
  | lu, [] => lu
  | lu, b :: r => lastU (nxt lu b) r
/-- How many messages follow a frame without numbers. -/
def aft : Bool → List Msg → Nat
  | _, [] => 0
  | lu, b :: r => hit lu b + aft (nxt lu b) r
theorem aft_cons (lu : Bool) (b : Msg) (r : List Msg) : aft lu (b :: r) = hit lu b + aft (nxt lu b) r := rfl
def rejs (L : List Msg) : Nat := L.countP kR
theorem kU_kI {b : Msg} (h : kU b = true) : kI b = false := by
  unfold kU at h; unfold kI
  have := of_decide_eq_true h
  exact decide_eq_false (by omega)
theorem lastU_snoc (lu : Bool) (L : List Msg) (b : Msg) : lastU lu (L ++ [b]) = nxt (lastU lu L) b := by
  induction L generalizing lu with
  | nil => rfl
  | cons x r ih => exact ih _
theorem aft_snoc (lu : Bool) (L : List Msg) (b : Msg) : aft lu (L ++ [b]) = aft lu L + hit (lastU lu L) b := by
  induction L generalizing lu with
  | nil => show hit lu b + 0 = 0 + hit lu b; omega
  | cons x r ih => show hit lu x + aft (nxt lu x) (r ++ [b]) = hit lu x + aft (nxt lu x) r + hit (lastU (nxt lu x) r) b; rw [ih]; omega
theorem hit_le (lu : Bool) (b : Msg) : hit lu b ≤ 1 := by unfold hit; split <;> omega
theorem aft_true (L : List Msg) : aft false L ≤ aft true L ∧ aft true L ≤ aft false L + 1 := by
  induction L with
  | nil => exact ⟨Nat.le_refl _, Nat.zero_le _⟩
  | cons b r ih =>
    rw [aft_cons, aft_cons]
    by_cases hu : kU b = true
    · have hi := kU_kI hu
      simp [nxt, hit, hu, hi]
    · by_cases hi : kI b = true
      · simp [nxt, hit, hu, hi]; omega
      · simp [nxt, hit, hu, hi]; exact ih
theorem aft_sub {M L : List Msg} (h : M.Sublist L) : ∀ lu, aft lu M ≤ aft lu L := by
  induction h with
  | slnil => exact fun _ => Nat.le_refl _
  | @cons M L b _ ih =>
    intro lu
    rw [aft_cons]
    by_cases hu : kU b = true
    · have hi := kU_kI hu
      have h1 := ih true
      have h2 := aft_true M
      cases lu <;> simp [nxt, hit, hu, hi] <;> omega
    · by_cases hi : kI b = true
      · have h1 := ih false
        have h2 := aft_true M
        cases lu <;> simp [nxt, hit, hu, hi] <;> omega
      · simp [nxt, hit, hu, hi]; exact ih lu
  | @cons_cons M L b _ ih =>
    intro lu
    rw [aft_cons, aft_cons]
    have := ih (nxt lu b)
    omega
theorem rejs_snoc (L : List Msg) (b : Msg) : rejs (L ++ [b]) = rejs L + if kR b then 1 else 0 := by
  unfold rejs
  rw [List.countP_append]
  simp [List.countP_cons]
/-- What a frame that is written is, by its kind. -/
theorem write_kinds (m : Int) (f : Fr) : (f.k = 1 → kU (writeL m f).2 = false ∧ kR (writeL m f).2 = false) ∧ (f.k = 2 ∨ f.k = 3 → kI (writeL m f).2 = false ∧ kU (writeL m f).2 = false ∧ kR (writeL m f).2 = false) ∧
    (f.k = 4 → kI (writeL m f).2 = false ∧ kU (writeL m f).2 = false) ∧ (5 ≤ f.k → kI (writeL m f).2 = false ∧ kR (writeL m f).2 = false) := by
  have hnil : kI [] = false ∧ kU [] = false ∧ kR [] = false := by decide
  unfold writeL
  split
  · exact ⟨fun _ => hnil.2, fun _ => hnil, fun _ => ⟨hnil.1, hnil.2.1⟩, fun _ => ⟨hnil.1, hnil.2.2⟩⟩
  · rename_i hok
    split
    · exact ⟨fun _ => hnil.2, fun _ => hnil, fun _ => ⟨hnil.1, hnil.2.1⟩, fun _ => ⟨hnil.1, hnil.2.2⟩⟩
    · split
      · exact ⟨fun _ => hnil.2, fun _ => hnil, fun _ => ⟨hnil.1, hnil.2.1⟩, fun _ => ⟨hnil.1, hnil.2.2⟩⟩
      · simp only [Bool.not_eq_false, Bool.and_eq_true] at hok
        obtain ⟨⟨⟨hm, hk⟩, hns⟩, hnr⟩ := hok
        obtain ⟨a, k, p, ns, nr, info⟩ := f
        simp only at hk hns hnr ⊢
        have hm' : m = 8 ∨ m = 128 := by
          unfold isMod at hm
          simpa using hm
        have hk' : 1 ≤ k ∧ k ≤ 9 := by
          unfold isKd at hk
          simpa using hk
        have hns0 : k ≠ 1 → ns.toNat = 0 := fun h1 => by
          unfold numF hasS at hns
          simp [h1] at hns
          simp [hns]
        have hnr0 : 5 ≤ k → nr.toNat = 0 := fun h1 => by
          unfold numF hasR at hnr
          have : ¬ k ≤ 4 := by omega
          simp [this] at hnr
          simp [hnr]
        have key : ∃ x t, UInt8.ofNat a.toNat :: (ctlL m.toNat k.toNat ns.toNat nr.toNat p ++ info) = UInt8.ofNat a.toNat :: UInt8.ofNat x :: t ∧ ∃ q r, x = baseN m.toNat k.toNat + 2 * ns.toNat + 16 * q + 32 * r ∧ (5 ≤ k → r = 0) := by
          unfold ctlL
          split
          · exact ⟨_, _, rfl, 0, 0, by omega, fun _ => rfl⟩
          · refine ⟨_, _, rfl, bitN p 1, nr.toNat, ?_, hnr0⟩
            unfold bitN
            split <;> omega
        obtain ⟨x, t, e, q, r, hx, hr⟩ := key
        rw [e]
        have hc : ctlB (UInt8.ofNat a.toNat :: UInt8.ofNat x :: t) = x % 256 := by
          show (UInt8.ofNat x).toNat = _
          simp
        unfold kI kU kR
        rw [hc]
        refine ⟨fun h => ?_, fun h => ?_, fun h => ?_, fun h => ?_⟩
        · subst h
          have : baseN m.toNat (1 : Int).toNat = 0 := by rcases hm' with rfl | rfl <;> rfl
          rw [this] at hx
          exact ⟨decide_eq_false (by omega), decide_eq_false (by omega)⟩
        · have hn := hns0 (by omega)
          rcases h with rfl | rfl
          · have : baseN m.toNat (2 : Int).toNat = 1 := by rcases hm' with rfl | rfl <;> rfl
            rw [this, hn] at hx
            exact ⟨decide_eq_false (by omega), decide_eq_false (by omega), decide_eq_false (by omega)⟩
          · have : baseN m.toNat (3 : Int).toNat = 5 := by rcases hm' with rfl | rfl <;> rfl
            rw [this, hn] at hx
            exact ⟨decide_eq_false (by omega), decide_eq_false (by omega), decide_eq_false (by omega)⟩
        · have hn := hns0 (by omega)
          subst h
          have : baseN m.toNat (4 : Int).toNat = 9 := by rcases hm' with rfl | rfl <;> rfl
          rw [this, hn] at hx
          exact ⟨decide_eq_false (by omega), decide_eq_false (by omega)⟩
        · have hn := hns0 (by omega)
          have hr0 := hr h
          have hb : baseN m.toNat k.toNat % 4 = 3 := by
            have : k = 5 ∨ k = 6 ∨ k = 7 ∨ k = 8 ∨ k = 9 := by omega
            rcases hm' with rfl | rfl <;> rcases this with rfl | rfl | rfl | rfl | rfl <;> rfl
          rw [hn] at hx
          exact ⟨decide_eq_false (by omega), decide_eq_false (by omega)⟩
theorem kindFrom_at {m c k n r : Nat} (h : kindFrom m c k n = some r) : c &&& maskN m r = baseN m r := by
  induction n generalizing k with
  | zero => simp [kindFrom] at h
  | succ n ih =>
    unfold kindFrom at h
    split at h
    · rename_i hh; simp at h; subst h; exact hh
    · exact ih h
/-- What a frame that is read is, by its kind. -/
theorem read_kinds (m : Int) (b : Msg) (h0 : (readL m b).1 = 0) : ((readL m b).2.k = 1 → kI b = true) ∧ ((readL m b).2.k = 4 → kR b = true) ∧ (5 ≤ (readL m b).2.k → kU b = true) := by
  have hk0 : (kindL m b).2 = 0 := by
    unfold readL at h0
    simp only at h0
    split at h0
    · rename_i h1; exact absurd h0 h1
    · rename_i h1; simpa using h1
  have hk : (readL m b).2.k = (kindL m b).1 := by
    unfold readL at h0 ⊢
    simp only [hk0] at h0 ⊢
    simp only [ne_eq, not_true_eq_false, if_false] at h0 ⊢
    split at h0
    · simp at h0
    · rename_i h1
      rw [if_neg h1]
      split at h0
      · simp at h0
      · rename_i h2
        rw [if_neg h2]
        unfold ctlF
        dsimp only
        split
        · rfl
        · split <;> rfl
  rw [hk]
  unfold kindL at hk0 ⊢
  split at hk0
  · simp at hk0
  rename_i hm
  rw [if_neg hm]
  have hm' : m = 8 ∨ m = 128 := by
    unfold isMod at hm
    by_cases h8 : m = 8
    · exact .inl h8
    · simp [h8] at hm; exact .inr hm
  match b, hk0 with
  | [], hk0 => simp at hk0
  | [a], hk0 => simp at hk0; split at hk0 <;> simp at hk0
  | a :: c :: t, hk0 =>
    simp only at hk0 ⊢
    split at hk0
    · simp at hk0
    rename_i ha
    rw [if_neg ha]
    split at hk0
    · rename_i k hkf
      have hr := kindFrom_some hkf
      have hat := kindFrom_at hkf
      simp only
      have hc : ctlB (a :: c :: t) = c.toNat := rfl
      unfold kI kR kU
      rw [hc]
      generalize c.toNat = c at *
      have hmod : ∀ n, (c &&& maskN m.toNat k) % 2 ^ n = (c % 2 ^ n) &&& (maskN m.toNat k % 2 ^ n) := fun n => Nat.and_mod_two_pow
      have h15 : ∀ x, x < 16 → x &&& 15 = x := by decide
      have h3 : ∀ x, x < 4 → x &&& 3 = x := by decide
      refine ⟨fun h => decide_eq_true ?_, fun h => decide_eq_true ?_, fun h => decide_eq_true ?_⟩
      · have h' : k = 1 := by omega
        subst h'
        have e1 : maskN m.toNat 1 = 1 := rfl
        have e2 : baseN m.toNat 1 = 0 := by rcases hm' with rfl | rfl <;> rfl
        rw [e1, e2, Nat.and_one_is_mod] at hat
        exact hat
      · have h' : k = 4 := by omega
        subst h'
        have e2 : baseN m.toNat 4 = 9 := by rcases hm' with rfl | rfl <;> rfl
        have e1 : maskN m.toNat 4 % 2 ^ 4 = 15 := by rcases hm' with rfl | rfl <;> rfl
        have := hmod 4
        rw [hat, e2, e1, h15 _ (by omega)] at this
        omega
      · have e2 : baseN m.toNat k % 2 ^ 2 = 3 := by
          have : k = 5 ∨ k = 6 ∨ k = 7 ∨ k = 8 ∨ k = 9 := by omega
          rcases hm' with rfl | rfl <;> rcases this with rfl | rfl | rfl | rfl | rfl <;> rfl
        have e1 : maskN m.toNat k % 2 ^ 2 = 3 := by
          have : k = 5 ∨ k = 6 ∨ k = 7 ∨ k = 8 ∨ k = 9 := by omega
          rcases hm' with rfl | rfl <;> rcases this with rfl | rfl | rfl | rfl | rfl <;> rfl
        have := hmod 2
        rw [hat, e2, e1, h3 _ (by omega)] at this
        omega
    · simp at hk0
/-- Three measures of a station. -/
def L1 (c : Cfg) (s : St) : Nat := s.out.length + (s.queue.length - ahead c s s.vs) + (if s.polling then 15 else 0)
def L2 (c : Cfg) (s : St) (lu : Bool) : Nat := rejs s.out + (c.room - s.came.length) + (if s.state = 2 ∧ s.rejected = false ∧ lu = false then 1 else 0)
def L3 (s : St) : Nat := aft false s.out + (if lastU false s.out = true ∧ s.queue ≠ [] then 1 else 0)
structure Lim (c : Cfg) (n r k : Nat) (lu lu' : Bool) (s t : St) : Prop where
  a : L1 c t ≤ L1 c s + n
  b : L2 c t lu' ≤ L2 c s lu + r
  c : L3 t ≤ L3 s + k
section
variable {c : Cfg} {s t u : St} {n r k n' r' k' : Nat} {lu lu' lu2 : Bool} {x : Msg}
theorem Lim.trans (h : Lim c n r k lu lu' s t) (h' : Lim c n' r' k' lu' lu2 t u) : Lim c (n + n') (r + r') (k + k') lu lu2 s u :=
  ⟨by have := h.a; have := h'.a; omega, by have := h.b; have := h'.b; omega, by have := h.c; have := h'.c; omega⟩
theorem Lim.mono (h : Lim c n r k lu lu' s t) (h1 : n ≤ n') (h2 : r ≤ r') (h3 : k ≤ k') : Lim c n' r' k' lu lu' s t :=
  ⟨by have := h.a; omega, by have := h.b; omega, by have := h.c; omega⟩
theorem Lim.refl : Lim c 0 0 0 lu lu s s := ⟨Nat.le_refl _, Nat.le_refl _, Nat.le_refl _⟩
/-- Another frame is heard, whatever it is. -/
theorem Lim.next (b : Msg) : Lim c 0 (hit lu b) 0 lu (nxt lu b) s s := by
  refine ⟨Nat.le_refl _, ?_, Nat.le_refl _⟩
  unfold L2 nxt hit
  by_cases hu : kU b = true
  · simp [hu]; omega
  · by_cases hi : kI b = true
    · cases lu
      · simp [hi, hu]
      · simp [hi, hu]; split <;> omega
    · simp [hi, hu]
theorem Lim.calm : Lim c 0 1 0 lu false s s := by
  refine ⟨Nat.le_refl _, ?_, Nat.le_refl _⟩
  unfold L2
  split <;> split <;> omega
theorem Lim.quiet (ho : t.out = s.out) (hq : t.queue = s.queue) (ha : ahead c t t.vs = ahead c s s.vs) (hp : t.polling = s.polling) (hc : t.came = s.came) (hs : t.state = s.state) (hr : t.rejected = s.rejected) : Lim c 0 0 0 lu lu s t := by
  refine ⟨?_, ?_, ?_⟩
  · unfold L1; rw [ho, hq, ha, hp]; exact Nat.le_refl _
  · unfold L2; rw [ho, hc, hs, hr]; exact Nat.le_refl _
  · unfold L3; rw [ho, hq]; exact Nat.le_refl _
theorem Lim.said (ho : t.out = s.out ++ [x]) (hI : kI x = false) (hU : kU x = false) (hR : kR x = false) (hq : t.queue = s.queue) (ha : ahead c t t.vs = ahead c s s.vs) (hp : t.polling = s.polling) (hc : t.came = s.came) (hs : t.state = s.state) (hr : t.rejected = s.rejected) : Lim c 1 0 0 lu lu s t := by
  refine ⟨?_, ?_, ?_⟩
  · unfold L1; rw [ho, hq, ha, hp, List.length_append]; simp; omega
  · unfold L2; rw [ho, hc, hs, hr, rejs_snoc]; simp [hR]
  · unfold L3; rw [ho, hq, aft_snoc, lastU_snoc]; simp [hit, nxt, hI, hU]
theorem Lim.reset0 (ho : t.out = s.out) (hq : t.queue = []) (hp : t.polling = false) (hc : t.came = s.came) (h2 : t.state ≠ 2 ∨ lu' = true) : Lim c 0 0 0 lu lu' s t := by
  refine ⟨?_, ?_, ?_⟩
  · unfold L1; rw [ho, hq, hp]; simp; omega
  · unfold L2; rw [ho, hc, if_neg (c := t.state = 2 ∧ t.rejected = false ∧ lu' = false)]
    · omega
    · rintro ⟨h, _, h'⟩
      rcases h2 with h2 | h2
      · exact h2 h
      · rw [h2] at h'; exact absurd h' (by decide)
  · unfold L3; rw [ho, hq]; simp
theorem Lim.reset (ho : t.out = s.out ++ [x]) (hI : kI x = false) (hR : kR x = false) (hq : t.queue = []) (hp : t.polling = false) (hc : t.came = s.came) (h2 : t.state ≠ 2 ∨ lu' = true) : Lim c 1 0 0 lu lu' s t := by
  refine ⟨?_, ?_, ?_⟩
  · unfold L1; rw [ho, hq, hp, List.length_append]; simp; omega
  · unfold L2; rw [ho, hc, rejs_snoc, if_neg (c := t.state = 2 ∧ t.rejected = false ∧ lu' = false)]
    · simp [hR]
    · rintro ⟨h, _, h'⟩
      rcases h2 with h2 | h2
      · exact h2 h
      · rw [h2] at h'; exact absurd h' (by decide)
  · unfold L3; rw [ho, hq, aft_snoc]; simp [hit, hI]
end
end Go.Proofs.YtkalonhalhdlaaaGreatDoor

/-
  Small words that all texts use: bytes in memory; facts kept out of sight of the walk.
-/
namespace Go.Proofs.YtkalonhalhdlaaaGreatDoor
open Go.RowKit
theorem hide {p : Prop} (h : p) : Hid p := h
theorem unhide {p : Prop} (h : Hid p) : p := h
/-- Bytes in memory. -/
def Seg (w : World) (b off : Nat) (l : List UInt8) : Prop := ∀ i, i < l.length → w.cell? ⟨b, off + i, none⟩ = some (.int .u8 ((l.getD i 0).toNat : Int))
theorem ret_int {k : IntKind} {a b : Int} (h : a = b) : Ending.returned (.int k a) = .returned (.int k b) := by rw [h]
theorem ret_bool {a b : Bool} (h : a = b) : Ending.returned (.bool a) = .returned (.bool b) := by rw [h]
theorem Seg.below {w w' : World} {b off : Nat} {l : List UInt8} (h : Seg w b off l) {B : Nat} (hb : Below B w w') (hB : b < B) : Seg w' b off l :=
  fun i hi => by rw [hb.cell (p := ⟨b, off + i, none⟩) hB]; exact h i hi
end Go.Proofs.YtkalonhalhdlaaaGreatDoor

/-
  What one call of the small functions beneath Write and Read does.
-/
namespace Go.Proofs.YtkalonhalhdlaaaGreatDoor
open Go.RowKit
/-- The table of controls lies where the program's text lays it. -/
def Ctl (w : World) : Prop := ∀ i, i < 10 → w.cell? ⟨0, i, none⟩ = some (.int .u8 (tabN.getD i 0 : Nat))
theorem Ctl.below {w w' : World} {B : Nat} (h : Ctl w) (hb : Below B w w') (hB : 0 < B) : Ctl w' :=
  fun i hi => by rw [hb.cell (p := ⟨0, i, none⟩) hB]; exact h i hi
theorem isModulo_any (m : Int) (w : World) : Calls Tryz.prog 71 #[.int .i64 m] w fun e w' => e = .returned (.bool (isMod m)) ∧ w' = w := by
  by_cases h1 : m = 8
  · subst h1
    go_enter Tryz.func71, Tryz.ntmps71
    go_wp2
    go_ret
    exact ⟨rfl, rfl⟩
  · by_cases h2 : m = 128
    · subst h2
      go_enter Tryz.func71, Tryz.ntmps71
      go_wp2
      go_ret
      exact ⟨rfl, rfl⟩
    · go_enter Tryz.func71, Tryz.ntmps71
      go_wp2
      go_ret
      exact ⟨ret_bool (by simp [isMod, h1, h2]), rfl⟩
theorem isAddress_any (m : Int) (w : World) : Calls Tryz.prog 74 #[.int .i64 m] w fun e w' => e = .returned (.bool (isAddr m)) ∧ w' = w := by
  by_cases h1 : m = 1
  · subst h1
    go_enter Tryz.func74, Tryz.ntmps74
    go_wp2
    go_ret
    exact ⟨rfl, rfl⟩
  · by_cases h2 : m = 3
    · subst h2
      go_enter Tryz.func74, Tryz.ntmps74
      go_wp2
      go_ret
      exact ⟨rfl, rfl⟩
    · go_enter Tryz.func74, Tryz.ntmps74
      go_wp2
      go_ret
      exact ⟨ret_bool (by simp [isAddr, h1, h2]), rfl⟩
theorem isKind_any (k : Int) (w : World) : Calls Tryz.prog 72 #[.int .i64 k] w fun e w' => e = .returned (.bool (isKd k)) ∧ w' = w := by
  by_cases h1 : 1 ≤ k
  · by_cases h2 : k ≤ 9
    · go_enter Tryz.func72, Tryz.ntmps72
      go_wp2
      go_ret
      exact ⟨ret_bool (by simp [isKd, h1, h2]), rfl⟩
    · go_enter Tryz.func72, Tryz.ntmps72
      go_wp2
      go_ret
      exact ⟨ret_bool (by simp [isKd, h1, h2]), rfl⟩
  · go_enter Tryz.func72, Tryz.ntmps72
    go_wp2
    go_ret
    exact ⟨ret_bool (by simp [isKd]; omega), rfl⟩
theorem hasNS_any (k : Int) (w : World) : Calls Tryz.prog 111 #[.int .i64 k] w fun e w' => e = .returned (.bool (hasS k)) ∧ w' = w := by
  by_cases h1 : k = 1
  · subst h1
    go_enter Tryz.func111, Tryz.ntmps111
    go_wp2
    go_ret
    exact ⟨rfl, rfl⟩
  · go_enter Tryz.func111, Tryz.ntmps111
    go_wp2
    go_ret
    exact ⟨ret_bool (by simp [hasS, h1]), rfl⟩
theorem hasNR_any (k : Int) (w : World) : Calls Tryz.prog 112 #[.int .i64 k] w fun e w' => e = .returned (.bool (hasR k)) ∧ w' = w := by
  by_cases h1 : 1 ≤ k
  · by_cases h2 : k ≤ 4
    · go_enter Tryz.func112, Tryz.ntmps112
      go_wp2
      go_ret
      exact ⟨ret_bool (by simp [hasR, h1, h2]), rfl⟩
    · go_enter Tryz.func112, Tryz.ntmps112
      go_wp2
      go_ret
      exact ⟨ret_bool (by simp [hasR, h1, h2]), rfl⟩
  · go_enter Tryz.func112, Tryz.ntmps112
    go_wp2
    go_ret
    exact ⟨ret_bool (by simp [hasR]; omega), rfl⟩
theorem numberFits_any (m n : Int) (has : Bool) (w : World) : Calls Tryz.prog 110 #[.int .i64 m, .int .i64 n, .bool has] w fun e w' => e = .returned (.bool (numF m n has)) ∧ w' = w := by
  cases has
  · go_enter Tryz.func110, Tryz.ntmps110
    go_wp2
    go_ret
    exact ⟨ret_bool (by by_cases h : n = 0 <;> simp [numF, h]), rfl⟩
  · by_cases h1 : 0 ≤ n
    · go_enter Tryz.func110, Tryz.ntmps110
      go_wp2
      go_ret
      exact ⟨ret_bool (by simp [numF, h1]), rfl⟩
    · go_enter Tryz.func110, Tryz.ntmps110
      go_wp2
      go_ret
      exact ⟨ret_bool (by simp [numF]; omega), rfl⟩
theorem reportBytes_any (m : Int) (w : World) : Calls Tryz.prog 113 #[.int .i64 m] w fun e w' => e = .returned (.int .i64 (repN m)) ∧ w' = w := by
  by_cases h1 : m = 8
  · subst h1
    go_enter Tryz.func113, Tryz.ntmps113
    go_wp2
    go_ret
    exact ⟨rfl, rfl⟩
  · go_enter Tryz.func113, Tryz.ntmps113
    go_wp2
    go_ret
    exact ⟨ret_int (by unfold repN; rw [if_neg h1]), rfl⟩
theorem infoFits_any (m k n : Int) (w : World) : Calls Tryz.prog 75 #[.int .i64 m, .int .i64 k, .int .i64 n] w fun e w' => e = .returned (.bool (infoF m k n)) ∧ w' = w := by
  by_cases h1 : k = 1
  · subst h1
    go_enter Tryz.func75, Tryz.ntmps75
    go_wp2
    go_ret
    exact ⟨ret_bool (by simp [infoF]), rfl⟩
  · by_cases h9 : k = 9
    · subst h9
      go_enter Tryz.func75, Tryz.ntmps75
      go_wp2_with fail
      refine (reportBytes_any m w).mono ?_
      rintro e W1 ⟨rfl, rfl⟩
      go_wp2
      go_ret
      exact ⟨ret_bool (by unfold infoF; rw [if_neg (by omega), if_pos rfl]), rfl⟩
    · go_enter Tryz.func75, Tryz.ntmps75
      go_wp2
      go_ret
      exact ⟨ret_bool (by unfold infoF; rw [if_neg h1, if_neg h9]), rfl⟩
theorem bitIf_any (p : Bool) (n : Nat) (w : World) : Calls Tryz.prog 116 #[.bool p, .int .u8 n] w fun e w' => e = .returned (.int .u8 (bitN p n : Nat)) ∧ w' = w := by
  cases p
  · go_enter Tryz.func116, Tryz.ntmps116
    go_wp2
    go_ret
    exact ⟨rfl, rfl⟩
  · go_enter Tryz.func116, Tryz.ntmps116
    go_wp2
    go_ret
    exact ⟨rfl, rfl⟩
theorem controlBytes_any (m k : Nat) (hk : 1 ≤ k) (w : World) : Calls Tryz.prog 84 #[.int .i64 m, .int .i64 k] w fun e w' => e = .returned (.int .i64 (cbN m k : Nat)) ∧ w' = w := by
  by_cases h1 : m = 128
  · subst h1
    by_cases h2 : k ≤ 4
    · have hr : hasR k = true := by simp [hasR]; omega
      go_enter Tryz.func84, Tryz.ntmps84
      go_wp2_with fail
      refine (hasNR_any k w).mono ?_
      rintro e W1 ⟨rfl, rfl⟩
      rw [hr]
      go_wp2
      go_ret
      exact ⟨ret_int (by simp [cbN, wide, h2]), rfl⟩
    · have hr : hasR k = false := by simp [hasR]; omega
      go_enter Tryz.func84, Tryz.ntmps84
      go_wp2_with fail
      refine (hasNR_any k w).mono ?_
      rintro e W1 ⟨rfl, rfl⟩
      rw [hr]
      go_wp2
      go_ret
      exact ⟨ret_int (by simp [cbN, wide, h2]), rfl⟩
  · have h1' : ¬ (m : Int) = 128 := by omega
    go_enter Tryz.func84, Tryz.ntmps84
    go_wp2
    go_ret
    exact ⟨ret_int (by simp [cbN, wide, h1]), rfl⟩
theorem kindBits_any (m k : Nat) (hk : 1 ≤ k) (w : World) : Calls Tryz.prog 117 #[.int .i64 m, .int .i64 k] w fun e w' => e = .returned (.int .u8 (maskN m k : Nat)) ∧ w' = w := by
  by_cases h1 : k = 1
  · subst h1
    go_enter Tryz.func117, Tryz.ntmps117
    go_wp2_with fail
    refine (hasNS_any _ w).mono ?_
    rintro e W1 ⟨rfl, rfl⟩
    rw [show hasS 1 = true from rfl]
    go_wp2
    go_ret
    exact ⟨rfl, rfl⟩
  · have hs : hasS k = false := by simp [hasS]; omega
    by_cases h4 : 4 < k
    · have hr : hasR k = false := by simp [hasR]; omega
      go_enter Tryz.func117, Tryz.ntmps117
      go_wp2_with fail
      refine (hasNS_any _ w).mono ?_
      rintro e W1 ⟨rfl, rfl⟩
      rw [hs]
      go_wp2_with fail
      refine (hasNR_any _ W1).mono ?_
      rintro e W2 ⟨rfl, rfl⟩
      rw [hr]
      go_wp2
      go_ret
      exact ⟨ret_int (by simp [maskN, h1, h4]), rfl⟩
    · have hr : hasR k = true := by simp [hasR]; omega
      by_cases h8 : m = 8
      · subst h8
        go_enter Tryz.func117, Tryz.ntmps117
        go_wp2_with fail
        refine (hasNS_any _ w).mono ?_
        rintro e W1 ⟨rfl, rfl⟩
        rw [hs]
        go_wp2_with fail
        refine (hasNR_any _ W1).mono ?_
        rintro e W2 ⟨rfl, rfl⟩
        rw [hr]
        go_wp2
        go_ret
        exact ⟨ret_int (by simp [maskN, h1, h4]), rfl⟩
      · have h8' : ¬ (m : Int) = 8 := by omega
        go_enter Tryz.func117, Tryz.ntmps117
        go_wp2_with fail
        refine (hasNS_any _ w).mono ?_
        rintro e W1 ⟨rfl, rfl⟩
        rw [hs]
        go_wp2_with fail
        refine (hasNR_any _ W1).mono ?_
        rintro e W2 ⟨rfl, rfl⟩
        rw [hr]
        go_wp2
        go_ret
        exact ⟨ret_int (by simp [maskN, h1, h4, h8]), rfl⟩
theorem plainControl_any (m k : Nat) (hk : k ≤ 9) (w : World) (hC : Ctl w) : Calls Tryz.prog 115 #[.int .i64 m, .int .i64 k] w fun e w' => e = .returned (.int .u8 (baseN m k : Nat)) ∧ w' = w := by
  by_cases h5 : k = 5
  · subst h5
    by_cases h1 : m = 128
    · subst h1
      go_enter Tryz.func115, Tryz.ntmps115
      go_wp2
      go_ret
      exact ⟨rfl, rfl⟩
    · have h1' : ¬ (m : Int) = 128 := by omega
      have hc := hC 5 (by omega)
      go_enter Tryz.func115, Tryz.ntmps115
      go_wp2
      go_ret
      exact ⟨ret_int (by simp [baseN, h1]), rfl⟩
  · have h5' : ¬ (k : Int) = 5 := by omega
    have hc := hC k (by omega)
    go_enter Tryz.func115, Tryz.ntmps115
    go_wp2
    go_ret
    exact ⟨ret_int (by simp [baseN, h5]), rfl⟩
end Go.Proofs.YtkalonhalhdlaaaGreatDoor

/-
  What one call of numbersFit and of control does.
-/
namespace Go.Proofs.YtkalonhalhdlaaaGreatDoor
open Go.RowKit
/-- The numbers that a kind has fit; those that it has not are nought. -/
def NumOk (m k ns nr : Nat) : Prop := (m = 8 ∨ m = 128) ∧ 1 ≤ k ∧ k ≤ 9 ∧ (k = 1 → ns < m) ∧ (k ≠ 1 → ns = 0) ∧ (k ≤ 4 → nr < m) ∧ (4 < k → nr = 0)
theorem first_lt {m k ns nr : Nat} (h : NumOk m k ns nr) : baseN m k + 2 * ns < 256 := by
  have := baseN_lt m k
  by_cases h1 : k = 1
  · subst h1
    have e : baseN m 1 = 0 := by simp [baseN, tabN]
    have := h.2.2.2.1 rfl
    rcases h.1 with h | h <;> omega
  · have := h.2.2.2.2.1 h1
    omega
theorem bitN_le (p : Bool) (n : Nat) : bitN p n ≤ n := by cases p <;> simp [bitN]
theorem one_lt {m k ns nr : Nat} (h : NumOk m k ns nr) (p : Bool) (hw : ¬ wide m k = true) : baseN m k + 2 * ns + bitN p 16 + 32 * nr < 256 := by
  have hb := bitN_le p 16
  obtain ⟨hm, k1, k9, a1, a2, b1, b2⟩ := h
  simp [wide] at hw
  have key : ∀ x, (x = 1 ∨ x = 2 ∨ x = 3 ∨ x = 4) → baseN m x < 16 := by
    intro x hx
    rcases hx with rfl | rfl | rfl | rfl <;> simp [baseN, tabN]
  have key2 : ∀ x, (x = 5 ∨ x = 6 ∨ x = 7 ∨ x = 8 ∨ x = 9) → baseN m x < 240 := by
    intro x hx
    rcases hx with rfl | rfl | rfl | rfl | rfl <;> simp [baseN, tabN] <;> split <;> omega
  by_cases h4 : k ≤ 4
  · have hm8 : m = 8 := by omega
    have hr := b1 h4
    by_cases e1 : k = 1
    · have := a1 e1
      have : baseN m 1 = 0 := by simp [baseN, tabN]
      subst e1
      omega
    · have := a2 e1
      have := key k (by omega)
      omega
  · have := a2 (by omega)
    have := b2 (by omega)
    have := key2 k (by omega)
    omega
theorem wrap1 (p : Bool) (nr : Nat) (h : nr < 128) : IntKind.u8.wrap ((bitN p 1 : Nat) + IntKind.u8.wrap (IntKind.i64.wrap (2 * (nr : Int)))) = ((bitN p 1 + 2 * nr : Nat) : Int) := by
  have hb := bitN_le p 1
  generalize bitN p 1 = x at hb ⊢
  simp only [IntKind.wrap_i64, IntKind.wrap_u8]
  omega
theorem wrap16 (p : Bool) (nr x ns : Nat) (h : x + 2 * ns + bitN p 16 + 32 * nr < 256) : IntKind.u8.wrap (IntKind.u8.wrap ((x : Int) + 2 * (ns : Int) + (bitN p 16 : Nat)) + IntKind.u8.wrap (IntKind.i64.wrap (32 * (nr : Int)))) = ((x + 2 * ns + bitN p 16 + 32 * nr : Nat) : Int) := by
  generalize bitN p 16 = y at h ⊢
  simp only [IntKind.wrap_i64, IntKind.wrap_u8]
  omega
theorem seg_one (W : World) (x : Nat) (hx : x < 256) (l : List UInt8) (hl : l = [UInt8.ofNat x]) : Seg (W.alloc (.cells #[.int .u8 (x : Int)] 5)).drew W.heap.size 0 l := by
  subst hl
  intro i hi
  simp at hi
  subst hi
  simp
  omega
theorem seg_two (W : World) (x y : Nat) (hx : x < 256) (hy : y < 256) (l : List UInt8) (hl : l = [UInt8.ofNat x, UInt8.ofNat y]) : Seg (W.alloc (.cells #[.int .u8 (x : Int), .int .u8 (y : Int)] 5)).drew W.heap.size 0 l := by
  subst hl
  intro i hi
  simp at hi
  have h2 : i = 0 ∨ i = 1 := by omega
  rcases h2 with rfl | rfl
  · simp; omega
  · simp; omega
set_option maxHeartbeats 1000000 in
theorem control_any (m k ns nr : Nat) (a : Int) (p : Bool) (v : Value) (w : World) (hC : Ctl w) (hs : 0 < w.heap.size) (ok : NumOk m k ns nr) :
    Calls Tryz.prog 77 #[.int .i64 m, .agg #[.int .i64 a, .int .i64 k, .bool p, .int .i64 ns, .int .i64 nr, v]] w fun e w' => ∃ b, e = .returned (.slice (some ⟨b, 0, none⟩) (cbN m k) (cbN m k)) ∧ w.heap.size ≤ b ∧ b < w'.heap.size ∧ Seg w' b 0 (ctlL m k ns nr p) ∧ Below w.heap.size w w' := by
  have h1 := first_lt ok
  have hm : m = 8 ∨ m = 128 := ok.1
  have hns : ns < 128 := by
    by_cases e : k = 1
    · have := ok.2.2.2.1 e; omega
    · have := ok.2.2.2.2.1 e; omega
  have hnr : nr < 128 := by
    by_cases e : k ≤ 4
    · have := ok.2.2.2.2.2.1 e; omega
    · have := ok.2.2.2.2.2.2 (by omega); omega
  have c1 := fun n => plainControl_any m k ok.2.2.1 ((w.alloc (.cells #[.int .i64 a, .int .i64 k, .bool p, .int .i64 ns, .int .i64 nr, v] 30)).drewN n) (hC.below (below_drewN ((Below.refl _ w).alloc (Nat.le_refl _) _) _) hs)
  have c2 := fun w => controlBytes_any m k ok.2.1 w
  go_enter Tryz.func77, Tryz.ntmps77
  go_wp2
  go_quiet (first | (go_at_call 115; exact Calls.quiet_of_same (c1 _)))
  go_wp2_with fail
  refine (c2 _).mono ?_
  rintro e W1 ⟨rfl, rfl⟩
  obtain ⟨W, hW⟩ : ∃ W, W = ((w.alloc (.cells #[.int .i64 a, .int .i64 k, .bool p, .int .i64 ns, .int .i64 nr, v] 30)).drewN nq) := ⟨_, rfl⟩
  have hbW : Below w.heap.size w W := by rw [hW]; exact below_drewN ((Below.refl _ w).alloc (Nat.le_refl _) _) nq
  have hR : W.heap[w.heap.size]? = some (.cells #[.int .i64 a, .int .i64 k, .bool p, .int .i64 ns, .int .i64 nr, v] 30 (0, 0)) := by rw [hW]; exact Array.getElem?_push_size
  rw [← hW]
  have r2 : W.cell? ⟨w.heap.size, 2, none⟩ = some (.bool p) := by rw [Lib.cell_of_heap hR]; rfl
  have r4 : W.cell? ⟨w.heap.size, 4, none⟩ = some (.int .i64 nr) := by rw [Lib.cell_of_heap hR]; rfl
  clear hW hR c1
  by_cases hw : wide m k = true
  · have hcb : cbN m k = 2 := by simp [cbN, hw]
    rw [hcb]
    go_wp2
    go_region_held3 (fun w' => w'.cell? ⟨w.heap.size, 2, none⟩ = some (.bool p) ∧ w'.cell? ⟨w.heap.size, 4, none⟩ = some (.int .i64 nr)) (go_keep) (first | (go_at_call 116; refine (bitIf_any p 1 _).mono ?_; rintro e w' ⟨rfl, rfl⟩))
    all_goals go_wp2
    go_ret
    refine ⟨W.heap.size, by rw [hcb]; rfl, hbW.size, by simp, ?_, below_drewN (hbW.alloc hbW.size _) 1⟩
    rw [wrap1 p nr hnr]
    exact seg_two W (baseN m k + 2 * ns) (bitN p 1 + 2 * nr) h1 (by have := bitN_le p 1; omega) _ (by simp [ctlL, hw])
  · have hcb : cbN m k = 1 := by simp [cbN, hw]
    rw [hcb]
    go_wp2
    go_region_held3 (fun w' => w'.cell? ⟨w.heap.size, 2, none⟩ = some (.bool p) ∧ w'.cell? ⟨w.heap.size, 4, none⟩ = some (.int .i64 nr)) (go_keep) (first | (go_at_call 116; refine (bitIf_any p 16 _).mono ?_; rintro e w' ⟨rfl, rfl⟩))
    all_goals go_wp2
    go_ret
    refine ⟨W.heap.size, by rw [hcb]; rfl, hbW.size, by simp, ?_, below_drewN (hbW.alloc hbW.size _) 1⟩
    have h2 := one_lt ok p hw
    rw [wrap16 p nr _ _ h2]
    exact seg_one W (baseN m k + 2 * ns + bitN p 16 + 32 * nr) h2 _ (by simp [ctlL, hw])
end Go.Proofs.YtkalonhalhdlaaaGreatDoor

/-
  Rows of bytes in memory.
-/
namespace Go.Proofs.YtkalonhalhdlaaaGreatDoor
open Go.RowKit
theorem infoByte : (Tryz.prog.info? 5).map (fun i => (i.zero, i.size, i.bytes)) = some (some (.int .u8 0), 1, 1) := by kernel_rfl
theorem Seg.news {w : World} {b off : Nat} {l : List UInt8} (h : Seg w b off l) : ∀ j u, (Lib.byteCells l)[j]? = some u → w.cell? ((⟨b, off, none⟩ : Addr).add j) = some u := by
  intro j u hj
  have hl : j < l.length := by
    have := (List.getElem?_eq_some_iff.1 hj).1
    simpa [Lib.byteCells] using this
  rw [Go.WideShapes.add_plain, h j hl, ← hj]
  simp [Lib.byteCells, List.getD, hl]
theorem byteCells_one (l : List UInt8) : ∀ u ∈ Lib.byteCells l, u.oneCell' = true := by
  intro u hu
  simp [Lib.byteCells] at hu
  obtain ⟨x, _, rfl⟩ := hu
  rfl
theorem row_is {w : World} {base n : Nat} {v : Value} {l : List UInt8} (h : w.ownsRow base 5 1 v n (Lib.byteCells l)) (hn : n = l.length) (h0 : 0 < n) : ∃ g cap, v = .slice (some ⟨g, 0, none⟩) n cap ∧ Seg w g 0 l := by
  rcases h.2 with ⟨_, he⟩ | ⟨g, cap, cur, hv, _, hg, _, _, _, ht⟩
  · omega
  · refine ⟨g, cap, hv, ?_⟩
    intro i hi
    have q : (cur.toList.take (n * 1))[i]? = (Lib.byteCells l)[i]? := by rw [ht]
    rw [Nat.zero_add, Lib.cell_of_heap hg]
    simp [show i < n by omega] at q
    simp [q, Lib.byteCells, List.getD, hi]
/-- Bytes as the library's contracts take them. -/
def nums (l : List UInt8) : List Int := l.map fun x => (x.toNat : Int)
theorem nums_length (l : List UInt8) : (nums l).length = l.length := by simp [nums]
theorem nums_getD (l : List UInt8) (i : Nat) (h : i < l.length) : (nums l).getD i 0 = ((l.getD i 0).toNat : Int) := by simp [nums, List.getD, h]
theorem bytesOf_nums (l : List UInt8) : Lib.bytesOf (nums l) = l := by
  induction l with
  | nil => rfl
  | cons x r ih =>
    simp only [nums, Lib.bytesOf, List.map_cons, List.map_map] at ih ⊢
    rw [ih]
    simp
theorem Seg.bytesIn {w : World} {b off : Nat} {l : List UInt8} (h : Seg w b off l) : Lib.BytesIn w (some ⟨b, off, none⟩) l.length (nums l) :=
  Lib.BytesIn.of_cells fun i hi => by rw [Go.WideShapes.add_plain, h i hi, nums_getD l i hi]
theorem ownsRow_mono {w : World} {b0 b1 : Nat} {e : TypeId} {size : Nat} {v : Value} {n : Nat} {xs : List Value} (h : w.ownsRow b1 e size v n xs) (hb : b0 ≤ b1) : w.ownsRow b0 e size v n xs := by
  obtain ⟨h1, h2⟩ := h
  refine ⟨h1, ?_⟩
  rcases h2 with h2 | ⟨g, cap, cur, e1, e2, e3⟩
  · exact Or.inl h2
  · exact Or.inr ⟨g, cap, cur, e1, by omega, e3⟩
theorem ownsRow_set {w : World} {base : Nat} {e : TypeId} {size : Nat} {v : Value} {n : Nat} {xs : List Value} (h : w.ownsRow base e size v n xs) (p : Addr) (hp : p.block < base) (u : Value) : (w.setCell p u).ownsRow base e size v n xs := by
  obtain ⟨h1, h2⟩ := h
  refine ⟨h1, ?_⟩
  rcases h2 with h2 | ⟨g, cap, cur, e1, e2, e3, e4⟩
  · exact Or.inl h2
  · exact Or.inr ⟨g, cap, cur, e1, e2, by rw [Below.heap_setCell w p u g (by omega)]; exact e3, e4⟩
theorem own_slice {w : World} {base : Nat} {e : TypeId} {size : Nat} {v : Value} {n : Nat} {xs : List Value} (h : w.ownsRow base e size v n xs) : ∃ q c, v = .slice q n c := by
  rcases h.2 with ⟨rfl, rfl⟩ | ⟨g, cap, _, rfl, _⟩
  · exact ⟨none, 0, rfl⟩
  · exact ⟨some ⟨g, 0, none⟩, cap, rfl⟩
/-- append, as one step of a region that draws. -/
theorem step_append_own {P : Program} (w : World) {ops : Array Oper} {o : Oper} {a : Act} {K : Act → World → Prop} {Q : Exit → Act → World → Prop} {E : Prop} (hgd : o.guard = none) (s x : Operand) (t : TypeId)
    (ho : o.op = .call { callee := .builtin .append, args := #[s, x], argTypes := #[t, t] })
    (base : Nat) (e : TypeId) (i : TypeInfo) (z : Value) (size bytes : Nat) (ht : P.underlying t = some (.slice e)) (hi : P.info? e = some i) (hz : i.zero = some z)
    (hsize : i.size = size) (hby : i.bytes = bytes) (hzs : z.cells.size = size) (hsz : 0 < size)
    (v : Value) (n : Nat) (xs : List Value) (hs : a.eval s = v) (hown : w.ownsRow base e size v n xs)
    (ad : Addr) (m c : Nat) (news : List Value) (hx : a.eval x = .slice (some ad) m c) (hl : news.length = m * size) (hnews : ∀ j u, news[j]? = some u → w.cell? (ad.add j) = some u) (h1 : ∀ u ∈ news, u.oneCell' = true)
    (h63 : n + m ≤ maxLen) (hbytes : (n + m) * bytes ≤ 140737488355328) (hbase : base ≤ w.heap.size)
    (h : ∀ v' w', w'.ownsRow base e size v' (n + m) (xs ++ news) → w.grownBy w' v.ownBlock → (v' = .slice none 0 0 ↔ v = .slice none 0 0 ∧ m = 0) → K (a.put o.dst v') w') :
    if Region.wanted o (yielded ops a.tmps) = true then Oper.wp P o a w K Q else E := by
  have hw : Region.wanted o (yielded ops a.tmps) = true := by simp [Region.wanted, hgd]
  rw [if_pos hw]
  exact wp_append_own w s x t ho base e i z size bytes ht hi hz hsize hby hzs hsz v n xs hs hown ad m c news hx hl hnews h1 h63 hbytes hbase h
/-- What is appended out of a list of nothing. -/
theorem wpList_append_nil {P : Program} (w : World) {ops : Array Oper} {rest : List Oper} {o : Oper} {a : Act} {Q : Exit → Act → World → Prop} (hgd : o.guard = none) (s x : Operand) (t : TypeId)
    (ho : o.op = .call { callee := .builtin .append, args := #[s, x], argTypes := #[t, t] })
    (e : TypeId) (i : TypeInfo) (ht : P.underlying t = some (.slice e)) (hi : P.info? e = some i)
    (g n cap c : Nat) (hs : a.eval s = .slice (some ⟨g, 0, none⟩) n cap) (hnc : n ≤ cap) (hx : a.eval x = .slice none 0 c)
    (h : wpList P ops Q rest (a.put o.dst (.slice (some ⟨g, 0, none⟩) n cap)) w) : wpList P ops Q (o :: rest) a w := by
  refine Lib.wpList_append_run w hgd s x t t ho _ _ hs hx _ _ ?_ h
  have := run_append_room_src (P := P) w t t o.type e i ht hi g 0 n cap (.slice none 0 c) 0 [] (Src.ofNil w ht c) hnc (by simp) (by simp)
  simpa [World.setCells] using this
end Go.Proofs.YtkalonhalhdlaaaGreatDoor

/-
  What one call of slices.Grow (onto nil) and of slices.Concat does: the bytes of all parts, one behind the other, in new memory.
-/
namespace Go.Proofs.YtkalonhalhdlaaaGreatDoor
open Go.RowKit
theorem Seg.nil (w : World) (b off : Nat) : Seg w b off [] := fun i hi => by simp at hi
set_option maxHeartbeats 1000000 in
set_option maxRecDepth 100000 in
theorem grow_nil (n : Nat) (h0 : 0 < n) (hn : n ≤ 1048576) (w : World) :
    Calls Tryz.prog 114 #[.slice none 0 0, .int .i64 n] w fun e w' => ∃ v, e = .returned v ∧ w'.ownsRow w.heap.size 5 1 v 0 [] ∧ (∃ g c, v = .slice (some ⟨g, 0, none⟩) 0 c ∧ w.heap.size ≤ g) ∧ Below w.heap.size w w' := by
  obtain ⟨i0, hi, hz0, hz1, hz2⟩ := info_parts infoByte
  have hold : (Builtin.firstCells i0.size 0 (.slice none 0 0)).run Tryz.prog w.drew = .ok ([] : List Value).toArray w.drew := run_firstCells_none w.drew i0.size 0 0 0
  have hrz : ∀ ty, (Builtin.append_ #[28, 3] ty #[.slice none 0 0, .int .i64 n]).run Tryz.prog w =
      .ok (.slice (some ⟨w.heap.size, 0, none⟩) n (grownCap w n 0 5)) (w.drew.alloc (.cells (([] : List Value).toArray ++ Builtin.zeroCells (Value.int .u8 0).cells n ++ Builtin.zeroCells (Value.int .u8 0).cells (grownCap w n 0 5 - n)) 5)) := fun ty => by
    have h := Lib.run_append_grow_zeros w 28 3 ty 5 i0 (.int .u8 0) .i64 .i64 Tryz.underlying28 Tryz.underlying3 hi hz0 none 0 0 [] hold n h0 (by omega) (by omega) (by omega) (by rw [hz2]; omega)
      (by rw [Nat.zero_add]; exact growslice_fits (by omega) (by rw [hz2]; omega))
    rw [Nat.zero_add] at h
    exact h
  have hGn : n ≤ grownCap w n 0 5 := grownCap_ge w _ _ _
  have hG63 := grownCap_le_maxLen w n 0 5 (by unfold maxLen; omega)
  generalize grownCap w n 0 5 = G at hrz hGn hG63
  have hin : (0 : Int) < (n : Int) := by omega
  have hng : ¬ ((n : Int) < 0) := by omega
  clear hold
  go_enter Tryz.func114, Tryz.ntmps114
  go_wp2_with (at_builtin; refine Lib.wpList_append_run _ rfl _ _ _ _ rfl _ _ rfl rfl _ _ (hrz _) ?_)
  go_wp2
  go_ret
  refine ⟨_, rfl, ⟨rfl, .inr ⟨w.heap.size, G, _, rfl, Nat.le_refl _, Array.getElem?_push_size, Nat.zero_le _, hG63, ?_, ?_⟩⟩, ⟨w.heap.size, ⟨G, rfl⟩, Nat.le_refl _⟩, ?_⟩
  · simp [size_zeroCells]; omega
  · simp
  · exact (below_drewN (Below.refl _ w) 1).alloc (Nat.le_refl _) _
/-- Where a part's bytes come from: nowhere, or memory that was there. -/
def SrcIs (w : World) (p : Option Addr) (l : List UInt8) : Prop := (p = none ∧ l = []) ∨ ∃ b off, p = some ⟨b, off, none⟩ ∧ b < w.heap.size ∧ Seg w b off l
theorem SrcIs.below {w w' : World} {p : Option Addr} {l : List UInt8} (h : SrcIs w p l) {B : Nat} (hb : Below B w w') (hB : w.heap.size ≤ B) : SrcIs w' p l := by
  rcases h with h | ⟨b, off, h1, h2, h3⟩
  · exact .inl h
  · exact .inr ⟨b, off, h1, Nat.lt_of_lt_of_le h2 hb.size, h3.below hb (by omega)⟩
/-- A list of parts in memory: each an address, a capacity and its bytes. -/
def PartsAt (w : World) (fb : Nat) (vs : List (Option Addr × Nat × List UInt8)) : Prop :=
  ∀ i (hi : i < vs.length), w.cell? ⟨fb, i, none⟩ = some (.slice vs[i].1 vs[i].2.2.length vs[i].2.1) ∧ SrcIs w vs[i].1 vs[i].2.2
theorem PartsAt.below {w w' : World} {fb : Nat} {vs : List (Option Addr × Nat × List UInt8)} (h : PartsAt w fb vs) {B : Nat} (hb : Below B w w') (hB : w.heap.size ≤ B) (hf : fb < B) : PartsAt w' fb vs := by
  intro i hi
  obtain ⟨h1, h2⟩ := h i hi
  exact ⟨by rw [hb.cell (p := ⟨fb, i, none⟩) hf]; exact h1, h2.below hb hB⟩
def catL (vs : List (Option Addr × Nat × List UInt8)) : List UInt8 := (vs.map (·.2.2)).flatten
theorem catL_take (vs : List (Option Addr × Nat × List UInt8)) (k : Nat) (hk : k < vs.length) : catL (vs.take (k + 1)) = catL (vs.take k) ++ vs[k].2.2 := by
  unfold catL
  rw [List.take_succ_eq_append_getElem hk, List.map_append, List.flatten_append]
  simp only [List.map_cons, List.map_nil, List.flatten_cons, List.flatten_nil, List.append_nil]
theorem catL_take_le (vs : List (Option Addr × Nat × List UInt8)) (k : Nat) : (catL (vs.take k)).length ≤ (catL vs).length := by
  have : catL vs = catL (vs.take k) ++ catL (vs.drop k) := by
    unfold catL
    rw [← List.flatten_append, ← List.map_append, List.take_append_drop]
  rw [this, List.length_append]
  omega
set_option maxHeartbeats 2000000 in
set_option maxRecDepth 100000 in
theorem concat_any (fb cap : Nat) (vs : List (Option Addr × Nat × List UInt8)) (w : World) (hP : PartsAt w fb vs) (hfb : fb < w.heap.size) (hv : vs.length ≤ 1048576) (h0 : 0 < (catL vs).length) (hn : (catL vs).length ≤ 1048576) :
    Calls Tryz.prog 76 #[.slice (some ⟨fb, 0, none⟩) vs.length cap] w fun e w' => ∃ v, e = .returned v ∧ w'.ownsRow w.heap.size 5 1 v (catL vs).length (Lib.byteCells (catL vs)) ∧ Below w.heap.size w w' := by
  obtain ⟨i0, hi, hz0, hz1, hz2⟩ := info_parts infoByte
  go_enter Tryz.func76, Tryz.ntmps76
  go_wp2
  go_loop [3, 11] (fun s i => ∃ k, k ≤ vs.length ∧ i = .int .i64 (k : Nat) ∧ s = .int .i64 ((catL (vs.take k)).length : Nat)) (fun _ i => vs.length - (intOf i).toNat)
  case atStart => exact ⟨0, Nat.zero_le _, rfl, rfl⟩
  case round =>
    obtain ⟨k, hk, rfl, rfl⟩ := hrel
    by_cases hlt : k < vs.length
    · obtain ⟨hcell, _⟩ := hP k hlt
      have hle := catL_take_le vs (k + 1)
      have hc := congrArg List.length (catL_take vs k hlt)
      rw [List.length_append] at hc
      generalize vs[k].1 = p at hcell
      generalize vs[k].2.1 = c at hcell
      generalize vs[k].2.2.length = x at hcell hc
      generalize (catL (vs.take k)).length = y at hc
      have HC := hide hc
      have hb1 : y + x ≤ 1048576 := by omega
      clear hc hle
      have hng : ¬ ((y : Int) + (x : Int) < 0) := by omega
      go_wp2
      go_round
      case rel => exact ⟨k + 1, by omega, by go_num, by rw [HC.out]; go_num⟩
      case measure => simp [intOf]; omega
    · obtain rfl : k = vs.length := by omega
      rw [List.take_length]
      have hgr := grow_nil (catL vs).length h0 hn w
      have HG := hide hgr
      clear hgr
      go_wp2_with fail
      refine (unhide HG).mono ?_
      rintro e w1 ⟨v1, rfl, hown1, ⟨g1, c1, rfl, hg1⟩, hb1⟩
      clear HG
      have HO := hide hown1
      have HB := hide hb1
      clear hown1 hb1
      go_wp2
      go_loopw [6, 27] (fun s i wr => ∃ k, k ≤ vs.length ∧ i = .int .i64 (k : Nat) ∧ wr.ownsRow w.heap.size 5 1 s (catL (vs.take k)).length (Lib.byteCells (catL (vs.take k))) ∧ (∃ g n c, s = .slice (some ⟨g, 0, none⟩) n c) ∧ Below w.heap.size w wr) (fun _ i _ => vs.length - (intOf i).toNat)
      case atStart => exact ⟨0, Nat.zero_le _, rfl, unhide HO, ⟨_, _, _, rfl⟩, unhide HB⟩
      case round =>
        clear HO HB
        obtain ⟨k, hk, rfl, hown, ⟨g, n, c, rfl⟩, hbw⟩ := hrel
        have hbz := hbw.size
        by_cases hlt2 : k < vs.length
        · obtain ⟨hcell, hsrc⟩ := hP.below hbw (Nat.le_refl _) hfb k hlt2
          have hle := catL_take_le vs (k + 1)
          have hc := catL_take vs k hlt2
          have HN : Hid (n = (catL (vs.take k)).length) := by
            show n = _
            rcases hown.2 with ⟨h, _⟩ | ⟨_, _, _, h, _⟩
            · cases h
            · simp only [Value.slice.injEq] at h; exact h.2.1
          rw [hc, List.length_append] at hle
          generalize vs[k].1 = p at hcell hsrc
          generalize vs[k].2.1 = cp at hcell
          generalize vs[k].2.2 = l at hcell hsrc hc hle
          have HC := hide hc
          clear hc
          generalize catL (vs.take k) = done at hown HN HC hle
          have HO := hide hown
          clear hown
          rcases hsrc with ⟨rfl, rfl⟩ | ⟨b, off, rfl, hb, hseg⟩
          · have hnc : n ≤ c := by
              rcases (unhide HO).2 with ⟨h, _⟩ | ⟨_, _, _, h, _, _, h2, _⟩
              · cases h
              · simp only [Value.slice.injEq] at h; omega
            go_wp2_with (at_builtin; refine wpList_append_nil _ rfl _ _ 28 rfl 5 i0 Tryz.underlying28 hi g n c cp rfl hnc rfl ?_)
            go_wp2
            go_roundw
            case rel => exact ⟨k + 1, by omega, by go_num, by rw [HC.out, List.append_nil]; exact unhide HO, ⟨_, _, _, rfl⟩, hbw⟩
            case measure => simp [intOf]; omega
          · go_wp2_with (at_builtin; refine wpList_append_own _ rfl _ _ 28 rfl w.heap.size 5 i0 _ 1 1 Tryz.underlying28 hi hz0 hz1 hz2 rfl (by decide) _ _ _ rfl (unhide HO) ⟨b, off, none⟩ l.length cp (Lib.byteCells l) rfl (by simp [Lib.byteCells]) ?ac1 ?ac2 ?ac3 ?ac4 ?ac5 ?_)
            case ac1 => exact hseg.news
            case ac2 => exact byteCells_one l
            case ac3 => unfold maxLen; omega
            case ac4 => omega
            case ac5 => exact hbz
            intro v1 w1 hown1 hg1 hnil
            have hge : w.heap.size ≤ g := ((unhide HO).lt g rfl).1
            have hb1 : Below w.heap.size w w1 := hbw.grown hg1 hbz (fun k hk => by simp [Value.ownBlock] at hk; omega)
            rw [← Lib.byteCells_append] at hown1
            have hsl : ∃ g n c, v1 = .slice (some ⟨g, 0, none⟩) n c := by
              rcases hown1.2 with ⟨h, _⟩ | ⟨g', c', _, h, _⟩
              · exact (hnil h).elim
              · exact ⟨g', _, c', h⟩
            have HO1 := hide hown1
            have HB1 := hide hb1
            clear hown1 hb1 hg1 hnil
            go_wp2
            go_roundw
            case rel => exact ⟨k + 1, by omega, by go_num, by rw [HC.out, List.length_append]; exact unhide HO1, hsl, unhide HB1⟩
            case measure => simp [intOf]; omega
        · obtain rfl : k = vs.length := by omega
          rw [List.take_length] at hown
          go_wp2
          go_ret
          exact ⟨_, rfl, hown, hbw⟩
end Go.Proofs.YtkalonhalhdlaaaGreatDoor

/-
  What one call of readKind, of readControl and of Read does.
-/
namespace Go.Proofs.YtkalonhalhdlaaaGreatDoor
open Go.RowKit
theorem isMod_nat {m : Int} (h : isMod m = true) : ∃ m' : Nat, m = m' ∧ (m' = 8 ∨ m' = 128) := by
  simp [isMod] at h
  rcases h with rfl | rfl
  · exact ⟨8, rfl, .inl rfl⟩
  · exact ⟨128, rfl, .inr rfl⟩
set_option maxHeartbeats 1000000 in
set_option maxRecDepth 100000 in
theorem readKind_mod (m : Int) (v : Value) (w : World) (h : isMod m = false) :
    Calls Tryz.prog 83 #[.int .i64 m, v] w fun e w' => e = .returned (.tuple #[.int .i64 0, .int .i64 1]) ∧ ∃ n, w' = w.drewN n := by
  have c1 := fun w => isModulo_any m w
  rw [h] at c1
  go_enter Tryz.func83, Tryz.ntmps83
  go_wp2_with fail
  refine (c1 _).mono ?_
  rintro e W1 ⟨rfl, rfl⟩
  go_wp2
  exact bodyPost_ret (v := .tuple #[.int .i64 0, .int .i64 1]) (by simp [results, Tryz.results83, go_sem]) rfl ⟨rfl, 0, rfl⟩
set_option maxHeartbeats 1000000 in
set_option maxRecDepth 100000 in
theorem readKind_nil (m : Int) (p : Option Addr) (c : Nat) (w : World) (h : isMod m = true) :
    Calls Tryz.prog 83 #[.int .i64 m, .slice p 0 c] w fun e w' => e = .returned (.tuple #[.int .i64 0, .int .i64 2]) ∧ ∃ n, w' = w.drewN n := by
  have c1 := fun w => isModulo_any m w
  rw [h] at c1
  go_enter Tryz.func83, Tryz.ntmps83
  go_wp2_with fail
  refine (c1 _).mono ?_
  rintro e W1 ⟨rfl, rfl⟩
  go_wp2
  exact bodyPost_ret (v := .tuple #[.int .i64 0, .int .i64 2]) (by simp [results, Tryz.results83, go_sem]) rfl ⟨rfl, 0, rfl⟩
set_option maxHeartbeats 1000000 in
set_option maxRecDepth 100000 in
theorem readKind_addr (m : Int) (b off n c : Nat) (x : UInt8) (w : World) (h : isMod m = true) (hn : 0 < n) (hx : w.cell? ⟨b, off, none⟩ = some (.int .u8 (x.toNat : Int))) (ha : isAddr x.toNat = false) :
    Calls Tryz.prog 83 #[.int .i64 m, .slice (some ⟨b, off, none⟩) n c] w fun e w' => e = .returned (.tuple #[.int .i64 0, .int .i64 3]) ∧ ∃ n, w' = w.drewN n := by
  have c1 := fun w => isModulo_any m w
  have c2 := fun w => isAddress_any x.toNat w
  rw [h] at c1
  rw [ha] at c2
  have hx8 : x.toNat < 256 := x.toNat_lt
  have hn1 : ¬ ((n : Int) = 0) := by omega
  have hn2 : (0 : Int) < (n : Int) := by omega
  go_enter Tryz.func83, Tryz.ntmps83
  go_wp2_with fail
  refine (c1 _).mono ?_
  rintro e W1 ⟨rfl, rfl⟩
  go_wp2_with fail
  refine (c2 _).mono ?_
  rintro e W2 ⟨rfl, rfl⟩
  go_wp2
  exact bodyPost_ret (v := .tuple #[.int .i64 0, .int .i64 3]) (by simp [results, Tryz.results83, go_sem]) rfl ⟨rfl, 0, rfl⟩
set_option maxHeartbeats 1000000 in
set_option maxRecDepth 100000 in
theorem readKind_one (m : Int) (b off c : Nat) (x : UInt8) (w : World) (h : isMod m = true) (hx : w.cell? ⟨b, off, none⟩ = some (.int .u8 (x.toNat : Int))) (ha : isAddr x.toNat = true) :
    Calls Tryz.prog 83 #[.int .i64 m, .slice (some ⟨b, off, none⟩) 1 c] w fun e w' => e = .returned (.tuple #[.int .i64 0, .int .i64 2]) ∧ ∃ n, w' = w.drewN n := by
  have c1 := fun w => isModulo_any m w
  have c2 := fun w => isAddress_any x.toNat w
  rw [h] at c1
  rw [ha] at c2
  have hx8 : x.toNat < 256 := x.toNat_lt
  go_enter Tryz.func83, Tryz.ntmps83
  go_wp2_with fail
  refine (c1 _).mono ?_
  rintro e W1 ⟨rfl, rfl⟩
  go_wp2_with fail
  refine (c2 _).mono ?_
  rintro e W2 ⟨rfl, rfl⟩
  go_wp2
  exact bodyPost_ret (v := .tuple #[.int .i64 0, .int .i64 2]) (by simp [results, Tryz.results83, go_sem]) rfl ⟨rfl, 0, rfl⟩
theorem drewN_add (w : World) (a b : Nat) : (w.drewN a).drewN b = w.drewN (a + b) := by
  induction b with
  | zero => rfl
  | succ b ih => show ((w.drewN a).drewN b).drew = (w.drewN (a + b)).drew; rw [ih]
theorem drew2 {w w' : World} {a : Nat} (h : w' = w.drewN a) (b : Nat) : ∃ n, w'.drewN b = w.drewN n := ⟨a + b, by rw [h, drewN_add]⟩
/-- What readKind gives behind the address. -/
def kindR (o : Option Nat) : Nat × Nat := match o with
  | some k => (k, 0)
  | none => (0, 4)
set_option maxHeartbeats 2000000 in
set_option maxRecDepth 100000 in
theorem readKind_ctl (m b off n c : Nat) (x y : UInt8) (w : World) (h : m = 8 ∨ m = 128) (hn : 1 < n) (hx : w.cell? ⟨b, off, none⟩ = some (.int .u8 (x.toNat : Int))) (hy : w.cell? ⟨b, off + 1, none⟩ = some (.int .u8 (y.toNat : Int))) (ha : isAddr x.toNat = true) (hC : Ctl w) :
    Calls Tryz.prog 83 #[.int .i64 m, .slice (some ⟨b, off, none⟩) n c] w fun e w' => e = .returned (.tuple #[.int .i64 ((kindR (kindFrom m y.toNat 1 9)).1 : Nat), .int .i64 ((kindR (kindFrom m y.toNat 1 9)).2 : Nat)]) ∧ ∃ n, w' = w.drewN n := by
  have c1 := fun w => isModulo_any m w
  have c2 := fun w => isAddress_any x.toNat w
  have hm : isMod m = true := by rcases h with rfl | rfl <;> rfl
  rw [hm] at c1
  rw [ha] at c2
  have hx8 : x.toNat < 256 := x.toNat_lt
  have hy8 : y.toNat < 256 := y.toNat_lt
  have hn1 : ¬ ((n : Int) = 0) := by omega
  have hn2 : ¬ ((n : Int) = 1) := by omega
  have hn3 : (0 : Int) < (n : Int) := by omega
  have hn4 : (1 : Int) < (n : Int) := by omega
  go_enter Tryz.func83, Tryz.ntmps83
  go_wp2_with fail
  refine (c1 _).mono ?_
  rintro e W1 ⟨rfl, rfl⟩
  go_wp2_with fail
  refine (c2 _).mono ?_
  rintro e W2 ⟨rfl, rfl⟩
  go_wp2
  clear c1 c2 hx
  go_loopw [6] (fun i wr => ∃ (k nd : Nat), 1 ≤ k ∧ k ≤ 10 ∧ i = .int .i64 k ∧ wr = W2.drewN nd ∧ kindFrom m y.toNat k (10 - k) = kindFrom m y.toNat 1 9) (fun i _ => 10 - (intOf i).toNat)
  case atStart => exact ⟨1, 0, by omega, by omega, rfl, rfl, rfl⟩
  case round =>
    obtain ⟨k, nd, hk1, hk10, rfl, hwr, hkf⟩ := hrel
    have hyw : wr.cell? ⟨b, off + 1, none⟩ = some (.int .u8 (y.toNat : Int)) := by rw [hwr]; simpa using hy
    have hCw : Ctl wr := by intro i hi; rw [hwr]; simpa using hC i hi
    have HW : Hid (wr = W2.drewN nd) := hwr
    clear hwr hy hC
    by_cases hk9 : k ≤ 9
    · have q1 := fun w => kindBits_any m k hk1 w
      have q2 := fun n => plainControl_any m k hk9 (wr.drewN n) (fun i hi => by simpa using hCw i hi)
      have hand : bits .and .u8 (y.toNat : Int) (maskN m k : Nat) = ((y.toNat &&& maskN m k : Nat) : Int) := u8_and_nat _ _ hy8 (maskN_lt m k)
      have e10 : 10 - k = (10 - (k + 1)) + 1 := by omega
      rw [e10, kindFrom] at hkf
      generalize maskN m k = mk at hand q1 hkf
      generalize baseN m k = bs at q2 hkf
      by_cases hq : y.toNat &&& mk = bs
      · rw [if_pos hq] at hkf
        have hqi : ((y.toNat &&& mk : Nat) : Int) = (bs : Int) := by omega
        have HK := hide hkf
        clear hkf hq
        go_wp2
        go_quiet (first | (go_at_call 117; exact Calls.quiet_of_same (q1 _)) | (go_at_call 115; exact Calls.quiet_of_same (q2 _)))
        go_wp2
        exact bodyPost_ret (v := .tuple #[.int .i64 (k : Nat), .int .i64 0]) (by simp [results, Tryz.results83, go_sem]) rfl ⟨by rw [← unhide HK]; rfl, drew2 HW.out _⟩
      · rw [if_neg hq] at hkf
        have hqi : ¬ ((y.toNat &&& mk : Nat) : Int) = (bs : Int) := by omega
        have HK := hide hkf
        clear hkf hq
        go_wp2
        go_quiet (first | (go_at_call 117; exact Calls.quiet_of_same (q1 _)) | (go_at_call 115; exact Calls.quiet_of_same (q2 _)))
        go_wp2
        go_roundw
        case rel => exact ⟨k + 1, (drew2 HW.out _).choose, by omega, by omega, by go_num, (drew2 HW.out _).choose_spec, unhide HK⟩
        case measure => simp [intOf]; omega
    · obtain rfl : k = 10 := by omega
      have HK := hide hkf
      clear hkf
      go_wp2
      exact bodyPost_ret (v := .tuple #[.int .i64 0, .int .i64 4]) (by simp [results, Tryz.results83, go_sem]) rfl ⟨by rw [← unhide HK]; rfl, nd, HW.out⟩
end Go.Proofs.YtkalonhalhdlaaaGreatDoor

/-
  What one call of numbersFit does.
-/
namespace Go.Proofs.YtkalonhalhdlaaaGreatDoor
open Go.RowKit
set_option maxHeartbeats 1000000 in
theorem numbersFit_any (m a k ns nr : Int) (p : Bool) (v : Value) (w : World) :
    Calls Tryz.prog 73 #[.int .i64 m, .agg #[.int .i64 a, .int .i64 k, .bool p, .int .i64 ns, .int .i64 nr, v]] w fun e w' => e = .returned (.bool (numF m ns (hasS k) && numF m nr (hasR k))) ∧ Below w.heap.size w w' := by
  have c1 := fun w => hasNS_any k w
  have c2 := fun w => hasNR_any k w
  have c3 := fun w => numberFits_any m ns (hasS k) w
  have c4 := fun w => numberFits_any m nr (hasR k) w
  generalize numF m nr (hasR k) = y at c4 ⊢
  generalize numF m ns (hasS k) = x at c3 ⊢
  generalize hasS k = s at c1 c3
  generalize hasR k = r at c2 c4
  cases x with
  | false =>
    go_enter Tryz.func73, Tryz.ntmps73
    go_wp2
    go_quiet (first | (go_at_call 111; exact Calls.quiet_of_same (c1 _)) | (go_at_call 110; exact Calls.quiet_of_same (c3 _)))
    go_wp2
    go_ret
    exact ⟨rfl, below_drewN ((Below.refl _ w).alloc (Nat.le_refl _) _) _⟩
  | true =>
    go_enter Tryz.func73, Tryz.ntmps73
    go_wp2
    go_quiet (first | (go_at_call 111; exact Calls.quiet_of_same (c1 _)) | (go_at_call 112; exact Calls.quiet_of_same (c2 _)) | (go_at_call_of 110 (ns); exact Calls.quiet_of_same (c3 _)) | (go_at_call_of 110 (nr); exact Calls.quiet_of_same (c4 _)))
    go_wp2
    go_ret
    exact ⟨rfl, below_drewN ((Below.refl _ w).alloc (Nat.le_refl _) _) _⟩
end Go.Proofs.YtkalonhalhdlaaaGreatDoor

/-
  Which blocks have turned, which not; rows that one owns behind that.
-/
namespace Go.Proofs.YtkalonhalhdlaaaGreatDoor
open Go.RowKit
/-- Nothing that was there has turned, but blocks in X. -/
structure Keeps (X : Nat → Prop) (w w' : World) : Prop where
  os : w'.os = w.os
  tape : w'.tape = w.tape
  output : w'.output = w.output
  size : w.heap.size ≤ w'.heap.size
  block : ∀ k, k < w.heap.size → ¬ X k → w'.heap[k]? = w.heap[k]?
theorem Keeps.refl (X : Nat → Prop) (w : World) : Keeps X w w := ⟨rfl, rfl, rfl, Nat.le_refl _, fun _ _ _ => rfl⟩
theorem Keeps.trans {X : Nat → Prop} {a b c : World} (h : Keeps X a b) (k : Keeps X b c) : Keeps X a c :=
  ⟨k.os.trans h.os, k.tape.trans h.tape, k.output.trans h.output, Nat.le_trans h.size k.size, fun i hi hx => (k.block i (Nat.lt_of_lt_of_le hi h.size) hx).trans (h.block i hi hx)⟩
theorem Keeps.mono {X Y : Nat → Prop} {a b : World} (h : Keeps X a b) (hXY : ∀ k, X k → Y k) : Keeps Y a b :=
  ⟨h.os, h.tape, h.output, h.size, fun i hi hx => h.block i hi fun hh => hx (hXY i hh)⟩
theorem Keeps.of {X : Nat → Prop} {w w' : World} (h : Below w.heap.size w w') : Keeps X w w' := ⟨h.os, h.tape, h.output, h.size, fun k hk _ => h.block k hk⟩
theorem Keeps.alloc {X : Nat → Prop} {a w : World} (h : Keeps X a w) (o : Obj) : Keeps X a (w.alloc o) :=
  h.trans (Keeps.of ((Below.refl _ w).alloc (Nat.le_refl _) o))
theorem Keeps.drewN {X : Nat → Prop} {a w : World} (h : Keeps X a w) (n : Nat) : Keeps X a (w.drewN n) := ⟨h.os, h.tape, h.output, h.size, h.block⟩
theorem Keeps.setCell {X : Nat → Prop} {a w : World} (h : Keeps X a w) {p : Addr} (hp : X p.block) (u : Value) : Keeps X a (w.setCell p u) :=
  h.trans ⟨rfl, rfl, rfl, by simp [World.setCell], fun k _ hx => Below.heap_setCell _ _ _ _ (fun e => hx (e ▸ hp))⟩
theorem Keeps.setB {b : Nat} {a w : World} (h : Keeps (· = b) a w) (off : Nat) (u : Value) : Keeps (· = b) a (w.setCell ⟨b, off, none⟩ u) := h.setCell (p := ⟨b, off, none⟩) rfl u
theorem Keeps.cell {X : Nat → Prop} {w w' : World} (h : Keeps X w w') {p : Addr} (hp : p.block < w.heap.size) (hx : ¬ X p.block) : w'.cell? p = w.cell? p := World.cell?_of_block (w := w) (h.block p.block hp hx)
theorem ownsRow_keeps {X : Nat → Prop} {w w' : World} {b0 : Nat} {e : TypeId} {size : Nat} {v : Value} {n : Nat} {xs : List Value} (h : w.ownsRow b0 e size v n xs) (hk : Keeps X w w') (hx : ∀ k, X k → ∀ c fz, w.heap[k]? ≠ some (.cells c e fz)) : w'.ownsRow b0 e size v n xs := by
  obtain ⟨h1, h2⟩ := h
  refine ⟨h1, ?_⟩
  rcases h2 with h2 | ⟨g, cap, cur, e1, e2, e3, e4⟩
  · exact Or.inl h2
  · exact Or.inr ⟨g, cap, cur, e1, e2, by rw [hk.block g (Array.getElem?_eq_some_iff.1 e3).1 (fun hg => hx g hg _ _ e3)]; exact e3, e4⟩
theorem Keeps.grown {w w' : World} {row : Option Nat} (h : w.grownBy w' row) : Keeps (fun k => some k = row) w w' := ⟨h.os, h.tape, h.output, h.size, fun k hk hx => h.block k hk hx⟩
/-- What a value's block is: one of those that may turn, or new. -/
def Mine (X : Nat → Prop) (n : Nat) (v : Value) : Prop := ∀ k, v.ownBlock = some k → X k ∨ n ≤ k
theorem ownsRow_isRow {w : World} {base : Nat} {e : TypeId} {size : Nat} {v : Value} {n : Nat} {xs : List Value} (h : w.ownsRow base e size v n xs) {k : Nat} (hk : v.ownBlock = some k) : ∃ c, w.heap[k]? = some (.cells c e (0, 0)) := by
  rcases h.2 with ⟨hv, _⟩ | ⟨g, cap, cur, hv, _, hg, _⟩
  · rw [hv] at hk; simp [Value.ownBlock] at hk
  · rw [hv] at hk
    simp [Value.ownBlock] at hk
    subst hk
    exact ⟨cur, hg⟩
theorem size_setCell (w : World) (p : Addr) (u : Value) : (w.setCell p u).heap.size = w.heap.size := by
  show (w.heap.modify _ _).size = _
  rw [Array.size_modify]
theorem alloc1_s (w : World) (o : Obj) : (w.alloc o).heap.size = w.heap.size + 1 := by
  show (w.heap.push o).size = _
  rw [Array.size_push]
theorem alloc1_a (w : World) (o : Obj) : (w.alloc o).heap[w.heap.size]? = some o := by
  show (w.heap.push o)[w.heap.size]? = some o
  rw [Array.getElem?_push]
  simp
theorem news1 (w : World) (u : Value) (e : TypeId) : ∀ j x, [u][j]? = some x → (w.alloc (.cells #[u] e)).cell? ((⟨w.heap.size, 0, none⟩ : Addr).add j) = some x := by
  intro j x hj
  rcases j with _ | j
  · simp at hj
    subst hj
    rw [Go.WideShapes.add_plain, Lib.cell_of_heap (alloc1_a w _)]
    rfl
  · simp at hj
theorem Seg.take {w : World} {b off : Nat} {l : List UInt8} (h : Seg w b off l) (n : Nat) : Seg w b off (l.take n) := by
  intro i hi
  have hi2 : i < n ∧ i < l.length := by rw [List.length_take] at hi; omega
  rw [h i hi2.2]
  simp [List.getD, hi2.1]
end Go.Proofs.YtkalonhalhdlaaaGreatDoor

/-
  Blocks and their cells, one by one.
-/
namespace Go.Proofs.YtkalonhalhdlaaaGreatDoor
open Go.RowKit
/-- A block whose cells are known, one of them written. -/
theorem block_set {w : World} {F j : Nat} {cs : Array Value} {t : TypeId} {fz : Nat × Nat} (h : w.heap[F]? = some (.cells cs t fz)) (v : Value) : (w.setCell ⟨F, j, none⟩ v).heap[F]? = some (.cells (cs.setIfInBounds j v) t fz) := by
  skip
  simp [World.setCell, Array.getElem?_modify, h]
theorem alloc2_s (w : World) (o p : Obj) : ((w.alloc o).alloc p).heap.size = w.heap.size + 2 := by rw [alloc1_s, alloc1_s]
end Go.Proofs.YtkalonhalhdlaaaGreatDoor

/-
  A frame's box cell by cell; bytes that one owns as a place to read from.
-/
namespace Go.Proofs.YtkalonhalhdlaaaGreatDoor
open Go.RowKit
theorem row_all {w : World} {base n : Nat} {v : Value} {l : List UInt8} (h : w.ownsRow base 5 1 v n (Lib.byteCells l)) (hn : n = l.length) (h0 : 0 < n) : ∃ g cap, v = .slice (some ⟨g, 0, none⟩) n cap ∧ Seg w g 0 l ∧ base ≤ g ∧ g < w.heap.size ∧ n ≤ cap ∧ cap ≤ maxLen := by
  obtain ⟨g, cap, rfl, hseg⟩ := row_is h hn h0
  have hl := h.lt g rfl
  rcases h.2 with ⟨h1, _⟩ | ⟨g', cap', cur, hv, _, _, h2, h3, _⟩
  · cases h1
  · simp only [Value.slice.injEq] at hv
    obtain ⟨_, _, rfl⟩ := hv
    exact ⟨g, cap, rfl, hseg, hl.1, hl.2, h2, h3⟩
theorem own_src {w : World} {base n cp : Nat} {q : Option Addr} {l : List UInt8} (h : w.ownsRow base 5 1 (.slice q n cp) n (Lib.byteCells l)) (hn : n = l.length) : SrcIs w q l := by
  by_cases h0 : 0 < n
  · obtain ⟨g, cap, hv, hseg, _, hlt, _⟩ := row_all h hn h0
    simp only [Value.slice.injEq] at hv
    exact .inr ⟨g, 0, hv.1, hlt, hseg⟩
  · have hl : l = [] := List.eq_nil_of_length_eq_zero (by omega)
    rcases h.2 with ⟨h1, _⟩ | ⟨g, cap, cur, hv, _, hg, _⟩
    · simp only [Value.slice.injEq] at h1
      exact .inl ⟨h1.1, hl⟩
    · simp only [Value.slice.injEq] at hv
      subst hl
      exact .inr ⟨g, 0, hv.1, (Array.getElem?_eq_some_iff.1 hg).1, Seg.nil _ _ _⟩
theorem SrcIs.conv {w : World} {p : Option Addr} {l : List UInt8} (h : SrcIs w p l) (cap : Nat) : (convert 28 9 (.slice p l.length cap)).run Tryz.prog w = .ok (.string ⟨l.toArray⟩) w := by
  have hin : Lib.BytesIn w p l.length (nums l) := by
    rcases h with ⟨rfl, rfl⟩ | ⟨b, off, rfl, _, hseg⟩
    · exact Lib.BytesIn.nil _ _ _
    · exact hseg.bytesIn
  have := hin.convert (nums_length _) cap 28 5 9 Tryz.underlying28 Tryz.underlying5 Tryz.underlying9
  rw [this]
  have e : strOfNums (nums l) = ⟨(Lib.bytesOf (nums l)).toArray⟩ := rfl
  rw [e, bytesOf_nums]
end Go.Proofs.YtkalonhalhdlaaaGreatDoor

/-
  What one call of tetherlaw's pick, mark, lent and whole does.
-/
namespace Go.Proofs.YtkalonhalhdlaaaGreatDoor
open Go.RowKit
theorem lawPick_any (c n : Int) (w : World) (hc : -9223372036854775808 ≤ c ∧ c ≤ 9223372036854775807) (hn : 0 < n) (hn2 : n ≤ 9223372036854775807) :
    Calls Tryz.prog 16 #[.int .i64 c, .int .i64 n] w fun e w' => (∃ r : Nat, (r : Int) < n ∧ e = .returned (.int .i64 r)) ∧ w' = w := by
  by_cases h0 : c < 0
  · go_enter Tryz.func16, Tryz.ntmps16
    go_wp2
    go_ret
    have h1 : (-(c + 1)).tmod n = (-(c + 1)) % n := Int.tmod_eq_emod_of_nonneg (by omega)
    have h2 : -((c + 1).tmod n) = (-(c + 1)) % n := by rw [← h1, Int.neg_tmod]
    have h3 := Int.emod_nonneg (-(c + 1)) (show n ≠ 0 by omega)
    have h4 := Int.emod_lt_of_pos (-(c + 1)) hn
    refine ⟨⟨((-(c + 1)) % n).toNat, by omega, ?_⟩, rfl⟩
    show Ending.returned (.int .i64 (-((c + 1).tmod n))) = _
    rw [h2]
    exact ret_int (by omega)
  · go_enter Tryz.func16, Tryz.ntmps16
    go_wp2
    go_ret
    have h3 := Int.emod_nonneg c (show n ≠ 0 by omega)
    have h4 := Int.emod_lt_of_pos c hn
    refine ⟨⟨(c % n).toNat, by omega, ?_⟩, rfl⟩
    show Ending.returned (.int .i64 (c % n)) = _
    exact ret_int (by omega)
/-- What the caller writes into the n-th list. -/
def markN (n : Nat) : Nat := 200 + n / 4 % 50
theorem mark_any (n : Nat) (w : World) (hn : n ≤ maxLen) :
    Calls Tryz.prog 23 #[.int .i64 (n : Int)] w fun e w' => e = .returned (.int .u8 (markN n : Nat)) ∧ w' = w := by
  unfold maxLen at hn
  go_enter Tryz.func23, Tryz.ntmps23
  go_wp2
  go_ret
  refine ⟨?_, rfl⟩
  apply congrArg Ending.returned
  simp [markN]
/-- A row of bytes, a block of its own. -/
def RowIs (w : World) (g : Nat) (l : List UInt8) : Prop := w.heap[g]? = some (.cells (Lib.byteCells l).toArray 5 (0, 0))
section
variable {w : World} {g : Nat} {l : List UInt8}
theorem RowIs.lt (h : RowIs w g l) : g < w.heap.size := (Array.getElem?_eq_some_iff.1 h).1
theorem RowIs.cell (h : RowIs w g l) (i : Nat) (hi : i < l.length) : w.cell? ⟨g, i, none⟩ = some (.int .u8 ((l.getD i 0).toNat : Int)) := by
  rw [Lib.cell_of_heap h]
  simp [Lib.byteCells, List.getD, hi]
theorem RowIs.fz (h : RowIs w g l) (i : Nat) : w.frozen? ⟨g, i, none⟩ = false := Lib.frozen_of_heap h i
theorem RowIs.set (h : RowIs w g l) (i : Nat) (x : UInt8) : RowIs (w.setCell ⟨g, i, none⟩ (.int .u8 (x.toNat : Int))) g (l.set i x) := by
  unfold RowIs at *
  simp [World.setCell, Array.getElem?_modify, h, Lib.byteCells]
theorem RowIs.seg (h : RowIs w g l) : Seg w g 0 l := fun i hi => by rw [Nat.zero_add]; exact h.cell i hi
theorem RowIs.keeps {w' : World} {X : Nat → Prop} (h : RowIs w g l) (hb : Keeps X w w') (hB : ¬ X g) : RowIs w' g l := by
  unfold RowIs
  rw [hb.block g h.lt hB]; exact h
end
/-- What is lent: the bytes, and eight more behind. -/
def lentL (s : ByteArray) : List UInt8 := s.data.toList ++ List.replicate 8 77
theorem lentL_length (s : ByteArray) : (lentL s).length = s.size + 8 := by simp [lentL]
theorem make_row (n : Nat) (hn : n ≤ 1099511627784) (w : World) : (Instr.makeSlice 28 (.int .i64 (n : Int)) (.int .i64 (n : Int))).run Tryz.prog w = .ok (.slice (some ⟨w.heap.size, 0, none⟩) n n) (w.alloc (.cells (Lib.byteCells (List.replicate n 0)).toArray 5)) := by
  obtain ⟨i0, hi, hz0, hz1, hz2⟩ := info_parts infoByte
  rw [run_make w 28 5 i0 (.int .u8 0) Tryz.underlying28 hi hz0 .i64 .i64 n n (by omega) (Int.le_refl _) (by rw [hz2]; omega) (by omega)]
  have e : madeCells (Value.cells (.int .u8 0)) ((n : Int).toNat * i0.size) = (Lib.byteCells (List.replicate n 0)).toArray := by
    rw [hz1]
    apply Array.ext
    · simp [size_madeCells, Lib.byteCells]
    · intro j h1 h2
      simp [madeCells, Value.cells, Lib.byteCells, Nat.mod_one]
  rw [e]
  simp
theorem toList_nil (s : ByteArray) : s.toList = [] ↔ s.size = 0 := by
  rw [ByteArray.toList_eq]
  constructor
  · intro h
    show s.data.size = 0
    rw [← Array.length_toList, h]
    rfl
  · intro h
    exact List.length_eq_zero_iff.1 (by rw [Array.length_toList]; exact h)
theorem lent_copied (s : ByteArray) : (List.take 0 (Lib.byteCells (List.replicate (s.size + 8) (0 : UInt8))) ++ Lib.byteCells s.data.toList ++ List.drop (0 + s.size) (Lib.byteCells (List.replicate (s.size + 8) (0 : UInt8)))).toArray = (Lib.byteCells (s.data.toList ++ List.replicate 8 0)).toArray := by
  congr 1
  simp [Lib.byteCells]
theorem lent_put (s : ByteArray) (k : Nat) (hk : k < 8) : (s.data.toList ++ (List.replicate k 77 ++ List.replicate (8 - k) (0 : UInt8))).set (s.size + k) 77 = s.data.toList ++ (List.replicate (k + 1) 77 ++ List.replicate (8 - (k + 1)) 0) := by
  have e : s.size = s.data.toList.length := by simp
  rw [e, List.set_append_right _ _ (by omega)]
  congr 1
  have e2 : s.data.toList.length + k - s.data.toList.length = k := by omega
  rw [e2]
  apply List.ext_getElem
  · simp; omega
  · intro i h1 h2
    rw [List.getElem_set]
    simp only [List.getElem_append, List.length_replicate, List.getElem_replicate]
    split
    · rename_i e; subst e; simp
    · split <;> split <;> first | rfl | omega
set_option maxHeartbeats 2000000 in
set_option maxRecDepth 100000 in
theorem lent_nil (s : ByteArray) (raw : Int) (w : World) (h0 : s.size = 0) (h1 : raw.tmod 2 ≠ 0) :
    Calls Tryz.prog 24 #[.string s, .int .i64 raw] w fun e w' => e = .returned (.slice none 0 0) ∧ w' = w := by
  have g0 : s.toList = [] := (toList_nil s).2 h0
  have g1 : (raw.tmod 2 != 0) = true := by simpa using h1
  go_enter Tryz.func24, Tryz.ntmps24
  go_wp2
  go_ret
  exact ⟨rfl, rfl⟩
theorem copy_lent (s : ByteArray) (w : World) : ∃ W1, (Builtin.copy_ #[28, 9] 3 #[.slice (some ⟨w.heap.size, 0, none⟩) (s.size + 8) (s.size + 8), .string s]).run Tryz.prog (w.alloc (.cells (Lib.byteCells (List.replicate (s.size + 8) 0)).toArray 5)) = .ok (.int .i64 s.size) W1 ∧ RowIs W1 w.heap.size (s.data.toList ++ (List.replicate 0 77 ++ List.replicate (8 - 0) 0)) ∧ Below w.heap.size w W1 ∧ W1.heap.size = w.heap.size + 1 := by
  have h := Lib.run_copy_row_string (P := Tryz.prog) (w.alloc (.cells (Lib.byteCells (List.replicate (s.size + 8) 0)).toArray 5)) 28 9 3 5 w.heap.size 0 (s.size + 8) (s.size + 8) s _ 5 Tryz.underlying28 (by kernel_rfl) (alloc1_a w _) (by omega) (by simp [Lib.byteCells])
  rw [World.setRow_alloc_new] at h
  have e := lent_copied s
  refine ⟨_, h, ?_, (Below.refl _ w).alloc (Nat.le_refl _) _, alloc1_s w _⟩
  unfold RowIs
  rw [alloc1_a, e]
  simp
set_option maxHeartbeats 2000000 in
set_option maxRecDepth 100000 in
theorem lent_some (s : ByteArray) (raw : Int) (w : World) (hs : s.size ≤ 1099511627776) (hne : ¬ (s.size = 0 ∧ raw.tmod 2 ≠ 0)) :
    Calls Tryz.prog 24 #[.string s, .int .i64 raw] w fun e w' => e = .returned (.slice (some ⟨w.heap.size, 0, none⟩) s.size (s.size + 8)) ∧ RowIs w' w.heap.size (lentL s) ∧ Below w.heap.size w w' ∧ w'.heap.size = w.heap.size + 1 := by
  have hmk : ∀ w : World, (Instr.makeSlice 28 (.int .i64 ((s.size : Int) + 8)) (.int .i64 ((s.size : Int) + 8))).run Tryz.prog w = .ok (.slice (some ⟨w.heap.size, 0, none⟩) (s.size + 8) (s.size + 8)) (w.alloc (.cells (Lib.byteCells (List.replicate (s.size + 8) 0)).toArray 5)) := make_row (s.size + 8) (by omega)
  obtain ⟨W1, hcp, hrow, hbel, hsz⟩ := copy_lent s w
  have main : ∀ (K : Prop), K → K := fun _ h => h
  by_cases h0 : s.size = 0
  · have g0 : s.toList = [] := (toList_nil s).2 h0
    have g1 : (raw.tmod 2 != 0) = false := by
      by_cases h : raw.tmod 2 = 0
      · simp [h]
      · exact absurd ⟨h0, h⟩ hne
    clear hne h0 main
    go_enter Tryz.func24, Tryz.ntmps24
    go_wp2
    go_loopw [7] (fun v wr => ∃ (k : Nat), k ≤ 8 ∧ v = .int .i64 (s.size + k : Nat) ∧ RowIs wr w.heap.size (s.data.toList ++ (List.replicate k 77 ++ List.replicate (8 - k) 0)) ∧ Below w.heap.size w wr ∧ wr.heap.size = w.heap.size + 1) (fun v _ => s.size + 8 - (intOf v).toNat)
    case atStart => exact ⟨0, Nat.zero_le _, rfl, hrow, hbel, hsz⟩
    case round =>
      clear hrow hbel hsz hcp
      obtain ⟨k, hk, rfl, hrow, hbel, hsz⟩ := hrel
      by_cases hlt : k < 8
      · have c0 := hrow.cell (s.size + k) (by simp; omega)
        have fz := hrow.fz
        have hput := hrow.set (s.size + k) 77
        rw [lent_put s k hlt] at hput
        have HP := hide hput
        have HB := hide ((hbel.setCell (p := ⟨w.heap.size, s.size + k, none⟩) (Nat.le_refl _) (.int .u8 ((77 : UInt8).toNat : Int))))
        have HZ := hide ((size_setCell wr ⟨w.heap.size, s.size + k, none⟩ (.int .u8 ((77 : UInt8).toNat : Int))).trans hsz)
        clear hput
        go_wp2
        go_roundw
        case rel => exact ⟨k + 1, hlt, by go_num, unhide HP, unhide HB, unhide HZ⟩
        case measure => simp [intOf]; omega
      · have e8 : k = 8 := by omega
        subst e8
        have HR : Hid (RowIs wr w.heap.size (lentL s)) := by show RowIs _ _ _; simpa [lentL] using hrow
        clear hrow
        go_wp2
        go_ret
        exact ⟨by simp, unhide HR, hbel, hsz⟩
  · have g0 : ¬ s.toList = [] := fun h => h0 ((toList_nil s).1 h)
    have g1 : s.toList.isEmpty = false := by simpa using g0
    clear hne h0 main
    go_enter Tryz.func24, Tryz.ntmps24
    go_wp2
    go_loopw [7] (fun v wr => ∃ (k : Nat), k ≤ 8 ∧ v = .int .i64 (s.size + k : Nat) ∧ RowIs wr w.heap.size (s.data.toList ++ (List.replicate k 77 ++ List.replicate (8 - k) 0)) ∧ Below w.heap.size w wr ∧ wr.heap.size = w.heap.size + 1) (fun v _ => s.size + 8 - (intOf v).toNat)
    case atStart => exact ⟨0, Nat.zero_le _, rfl, hrow, hbel, hsz⟩
    case round =>
      clear hrow hbel hsz hcp
      obtain ⟨k, hk, rfl, hrow, hbel, hsz⟩ := hrel
      by_cases hlt : k < 8
      · have c0 := hrow.cell (s.size + k) (by simp; omega)
        have fz := hrow.fz
        have hput := hrow.set (s.size + k) 77
        rw [lent_put s k hlt] at hput
        have HP := hide hput
        have HB := hide ((hbel.setCell (p := ⟨w.heap.size, s.size + k, none⟩) (Nat.le_refl _) (.int .u8 ((77 : UInt8).toNat : Int))))
        have HZ := hide ((size_setCell wr ⟨w.heap.size, s.size + k, none⟩ (.int .u8 ((77 : UInt8).toNat : Int))).trans hsz)
        clear hput
        go_wp2
        go_roundw
        case rel => exact ⟨k + 1, hlt, by go_num, unhide HP, unhide HB, unhide HZ⟩
        case measure => simp [intOf]; omega
      · have e8 : k = 8 := by omega
        subst e8
        have HR : Hid (RowIs wr w.heap.size (lentL s)) := by show RowIs _ _ _; simpa [lentL] using hrow
        clear hrow
        go_wp2
        go_ret
        exact ⟨by simp, unhide HR, hbel, hsz⟩
end Go.Proofs.YtkalonhalhdlaaaGreatDoor
