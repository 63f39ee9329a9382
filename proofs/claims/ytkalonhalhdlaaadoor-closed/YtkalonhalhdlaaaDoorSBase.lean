import Derived.Test.YtkalonhalhdlaaaDoorFBase
import Derived.Test.YtkalonhalhdlaaaDoorLRow
import Derived.BigQuiet
import Derived.Deep.QuietTactic
import Derived.Test.YtkalonhalhdlaaaDoorFReads
import Derived.Test.YtkalonhalhdlaaaDoorFWrite
/-
  A station in plain words: numbers, flags, lists of bytes; each call a plain function.
-/
namespace Go.Proofs.YtkalonhalhdlaaaDoor
open Go

abbrev Msg := List UInt8

/-- A configuration. -/
structure Cfg where
  m : Nat
  win : Nat
  tim : Nat
  tri : Nat
  room : Nat
  addr : Nat

structure Cfg.ok (c : Cfg) : Prop where
  m : c.m = 8 ∨ c.m = 128
  win1 : 1 ≤ c.win
  win15 : c.win ≤ 15
  winm : c.win < c.m
  tim1 : 1 ≤ c.tim
  tim100 : c.tim ≤ 100
  tri1 : 1 ≤ c.tri
  tri10 : c.tri ≤ 10
  room1 : 1 ≤ c.room
  room16 : c.room ≤ 16
  addr : c.addr = 1 ∨ c.addr = 3

/-- A station. -/
structure St where
  state : Nat
  vs : Nat
  va : Nat
  vr : Nat
  vm : Nat
  queue : List Msg
  timer : Nat
  tries : Nat
  polling : Bool
  peer : Bool
  rejected : Bool
  busy : Bool
  came : List Msg
  out : List Msg
  events : List Nat

def St.fresh : St := ⟨0, 0, 0, 0, 0, [], 0, 0, false, false, false, false, [], [], []⟩

def ahead (c : Cfg) (s : St) (n : Nat) : Nat := (n + c.m - s.va) % c.m
def follow (c : Cfg) (n : Nat) : Nat := (n + 1) % c.m
def over (s : St) : St := { s with vs := 0, va := 0, vr := 0, vm := 0, queue := [], timer := 0, tries := 0, polling := false, peer := false, rejected := false }
def put (c : Cfg) (f : Fr) (s : St) : St := { s with out := s.out ++ [(writeL c.m f).2] }
def putC (c : Cfg) (f : Fr) (s : St) : St := put c { f with a := 4 - (c.addr : Int) } s
def putR (c : Cfg) (f : Fr) (s : St) : St := put c { f with a := (c.addr : Int) } s
def tell (e : Nat) (s : St) : St := { s with events := s.events ++ [e] }
def heldUp (c : Cfg) (s : St) : Bool := s.busy || decide (c.room ≤ s.came.length)
def ready (c : Cfg) (s : St) : Nat := if heldUp c s then 3 else 2
def answer (c : Cfg) (p : Bool) (s : St) : St := putR c ⟨0, ready c s, p, 0, s.vr, []⟩ s
def respond (c : Cfg) (k : Nat) (p : Bool) (s : St) : St := putR c ⟨0, k, p, 0, 0, []⟩ s
def report (c : Cfg) (p : Bool) (s : St) : St := putR c ⟨0, 9, p, 0, 0, List.replicate (repN c.m).toNat 0⟩ s
def ask (c : Cfg) (state kind : Nat) (s : St) : St := putC c ⟨0, kind, true, 0, 0, []⟩ { over s with state := state, tries := 1, timer := c.tim }
def callS (c : Cfg) (s : St) : St := ask c 1 5 s
def goDown (e : Nat) (s : St) : St := tell e { over s with state := 0 }
def comeUp (e : Nat) (s : St) : St := tell e { over s with state := 2 }
def accept (c : Cfg) (p : Bool) (e : Nat) (s : St) : St := respond c 7 p (comeUp e s)
def agree (c : Cfg) (p : Bool) (s : St) : St := goDown 3 (respond c 7 p s)

def maySend (c : Cfg) (s : St) : Bool := !s.peer && (decide (ahead c s s.vs < s.queue.length) && decide (ahead c s s.vs < c.win))
def upVm (c : Cfg) (s : St) : St := if ahead c s s.vm < ahead c s s.vs then { s with vm := s.vs } else s
def sendNext (c : Cfg) (s : St) : St :=
  upVm c { putC c ⟨0, 1, false, s.vs, s.vr, s.queue.getD (ahead c s s.vs) []⟩ s with vs := follow c s.vs }
def pumpN (c : Cfg) : Nat → St → St
  | 0, s => s
  | n + 1, s => if maySend c s then pumpN c n (sendNext c s) else s
def setTimer (c : Cfg) (s : St) : St :=
  if s.va = s.vm ∧ s.peer = false then { s with timer := 0 }
  else if s.timer = 0 then { s with timer := c.tim, tries := 1 } else s
def pump (c : Cfg) (s : St) : St := if s.polling then s else setTimer c (pumpN c 16 s)

def isCmd (c : Cfg) (f : Fr) : Bool := f.a == (c.addr : Int)
def isGood (c : Cfg) (s : St) (nr : Nat) : Bool := decide (ahead c s nr ≤ ahead c s s.vm)
def acknowledge (c : Cfg) (nr : Nat) (s : St) : St :=
  if ahead c s nr = 0 then s
  else { s with vs := if ahead c s s.vs < ahead c s nr then nr else s.vs, queue := s.queue.drop (ahead c s nr), va := nr, timer := if s.polling then s.timer else 0 }
def fallApart (c : Cfg) (f : Fr) (s : St) : St := tell 2 (report c (isCmd c f && f.p) { over s with state := 4 })
def hearReady (c : Cfg) (f : Fr) (s : St) : St :=
  let s1 := { s with peer := f.k == 3, vs := if f.k = 4 then f.nr.toNat else s.vs }
  if f.p = false then s1
  else if isCmd c f then answer c true s1
  else if s1.polling then { s1 with polling := false, vs := f.nr.toNat, timer := 0 } else s1
def hearMsg (c : Cfg) (f : Fr) (s : St) : St :=
  if heldUp c s then answer c f.p s
  else if f.ns = s.vr then answer c f.p { s with vr := follow c s.vr, came := s.came ++ [f.info], rejected := false }
  else if s.rejected = false then putR c ⟨0, 4, f.p, 0, s.vr, []⟩ { s with rejected := true }
  else if f.p then answer c true s else s
def hearNum (c : Cfg) (f : Fr) (s : St) : St :=
  if isGood c s f.nr.toNat = false then fallApart c f s
  else pump c (if f.k = 1 then hearMsg c f (acknowledge c f.nr.toNat s) else hearReady c f (acknowledge c f.nr.toNat s))

def heeds (c : Cfg) (f : Fr) : Bool :=
  if f.k = 1 ∨ f.k = 5 ∨ f.k = 6 then isCmd c f
  else if f.k = 7 ∨ f.k = 8 ∨ f.k = 9 then !isCmd c f else true
def hearDown (c : Cfg) (f : Fr) (s : St) : St :=
  if f.k = 5 then accept c f.p 1 s
  else if f.k = 6 then respond c 8 f.p s
  else if f.k = 1 ∨ f.k = 2 ∨ f.k = 3 ∨ f.k = 4 then (if isCmd c f && f.p then respond c 8 f.p s else s) else s
def hearCalling (c : Cfg) (f : Fr) (s : St) : St :=
  if f.k = 5 then respond c 7 f.p s
  else if f.k = 6 then respond c 8 f.p s
  else if f.k = 7 ∧ f.p = true then comeUp 1 s
  else if f.k = 8 ∧ f.p = true then goDown 4 s else s
def hearUp (c : Cfg) (f : Fr) (s : St) : St :=
  if f.k = 5 then accept c f.p 2 s
  else if f.k = 6 then agree c f.p s
  else if f.k = 8 then goDown 3 s
  else if f.k = 7 ∨ f.k = 9 then callS c (tell 2 s)
  else if f.k = 1 ∨ f.k = 2 ∨ f.k = 3 ∨ f.k = 4 then hearNum c f s else s
def hearLeaving (c : Cfg) (f : Fr) (s : St) : St :=
  if f.k = 5 then respond c 8 f.p s
  else if f.k = 6 then respond c 7 f.p s
  else if f.k = 7 ∨ f.k = 8 then (if f.p then goDown 3 s else s) else s
def hearBroken (c : Cfg) (f : Fr) (s : St) : St :=
  if f.k = 5 ∨ f.k = 6 ∨ f.k = 8 then hearUp c f s
  else if f.k = 1 ∨ f.k = 2 ∨ f.k = 3 ∨ f.k = 4 then (if isCmd c f then report c f.p s else s) else s
def hearFrame (c : Cfg) (f : Fr) (s : St) : St :=
  if s.state = 0 then hearDown c f s
  else if s.state = 1 then hearCalling c f s
  else if s.state = 2 then hearUp c f s
  else if s.state = 3 then hearLeaving c f s
  else if s.state = 4 then hearBroken c f s else s

/-- The calls: an error, and the station. -/
def connectS (c : Cfg) (s : St) : Nat × St := if s.state = 0 ∨ s.state = 4 then (0, callS c s) else (6, s)
def leaveS (c : Cfg) (s : St) : Nat × St := if s.state = 0 ∨ s.state = 3 then (6, s) else (0, ask c 3 6 s)
def sendS (c : Cfg) (b : Msg) (s : St) : Nat × St :=
  if s.state ≠ 2 then (6, s) else if 32 < b.length then (1, s) else if 20 ≤ s.queue.length then (7, s)
  else (0, pump c { s with queue := s.queue ++ [b] })
def change (c : Cfg) (was : Bool) (s : St) : St := if s.state = 2 ∧ heldUp c s ≠ was then answer c false s else s
def busyS (c : Cfg) (on : Bool) (s : St) : St := change c (heldUp c s) { s with busy := on }
def takenS (c : Cfg) (s : St) : St := change c (heldUp c s) { s with came := [] }
def hearS (c : Cfg) (b : Msg) (s : St) : Nat × St :=
  if (readL c.m b).1 ≠ 0 then ((readL c.m b).1, s)
  else (0, if heeds c (readL c.m b).2 then hearFrame c (readL c.m b).2 s else s)
def runOut (c : Cfg) (s : St) : St :=
  if s.tries = c.tri then goDown 4 s
  else if s.state = 1 then putC c ⟨0, 5, true, 0, 0, []⟩ { s with tries := s.tries + 1, timer := c.tim }
  else if s.state = 3 then putC c ⟨0, 6, true, 0, 0, []⟩ { s with tries := s.tries + 1, timer := c.tim }
  else if s.state = 2 then putC c ⟨0, ready c s, true, 0, s.vr, []⟩ { s with tries := s.tries + 1, timer := c.tim, polling := true }
  else { s with tries := s.tries + 1, timer := c.tim }
def tickS (c : Cfg) (s : St) : St :=
  if s.timer = 0 then s else if s.timer = 1 then runOut c { s with timer := 0 } else { s with timer := s.timer - 1 }

/-- What always holds of a station. -/
structure St.ok (c : Cfg) (s : St) : Prop where
  state : s.state ≤ 4
  vs : s.vs < c.m
  va : s.va < c.m
  vr : s.vr < c.m
  vm : s.vm < c.m
  svs : ahead c s s.vs ≤ ahead c s s.vm
  svm : ahead c s s.vm ≤ s.queue.length
  vmw : ahead c s s.vm ≤ c.win
  q20 : s.queue.length ≤ 20
  q32 : ∀ x ∈ s.queue, x.length ≤ 32
  timer : s.timer ≤ c.tim
  tim0 : s.state = 0 ∨ s.state = 4 → s.timer = 0
  tries : s.tries ≤ c.tri
  came : s.came.length ≤ c.room
  down : s.state ≠ 2 → s.queue = [] ∧ s.polling = false ∧ s.peer = false ∧ s.vs = 0 ∧ s.va = 0 ∧ s.vm = 0 ∧ s.vr = 0 ∧ s.rejected = false
end Go.Proofs.YtkalonhalhdlaaaDoor

/-
  What always holds of a station: each call keeps it.
-/
namespace Go.Proofs.YtkalonhalhdlaaaDoor
open Go

section
variable {c : Cfg} {s : St}

theorem Cfg.ok.pos (hc : c.ok) : 0 < c.m := by
  have := hc.m
  omega
theorem ahead_lt (hc : c.ok) (n : Nat) : ahead c s n < c.m := Nat.mod_lt _ hc.pos
theorem follow_lt (hc : c.ok) (n : Nat) : follow c n < c.m := Nat.mod_lt _ hc.pos
theorem round_follow {m n a : Nat} (hm : m = 8 ∨ m = 128) (hn : n < m) (ha : a < m) (h : (n + m - a) % m + 1 < m) : ((n + 1) % m + m - a) % m = (n + m - a) % m + 1 := by
  rcases hm with rfl | rfl <;> omega
theorem round_zero {m n a : Nat} (hm : m = 8 ∨ m = 128) (hn : n < m) (ha : a < m) (h : (n + m - a) % m = 0) : n = a := by
  rcases hm with rfl | rfl <;> omega
theorem round_same {m a : Nat} (hm : m = 8 ∨ m = 128) (ha : a < m) : (a + m - a) % m = 0 := by
  rcases hm with rfl | rfl <;> omega
theorem round_inj {m a n k : Nat} (hm : m = 8 ∨ m = 128) (ha : a < m) (hn : n < m) (hk : k < m) (h : (n + m - a) % m = (k + m - a) % m) : n = k := by
  rcases hm with rfl | rfl <;> omega
theorem round_from {m a n x : Nat} (hm : m = 8 ∨ m = 128) (ha : a < m) (hn : n < m) (hx : x < m) (h : (n + m - a) % m ≤ (x + m - a) % m) : (x + m - n) % m = (x + m - a) % m - (n + m - a) % m := by
  rcases hm with rfl | rfl <;> omega
theorem ahead_follow (hc : c.ok) {n : Nat} (hn : n < c.m) (ha : s.va < c.m) (h : ahead c s n + 1 < c.m) : ahead c s (follow c n) = ahead c s n + 1 := round_follow hc.m hn ha h
theorem ahead_va (hc : c.ok) (ha : s.va < c.m) : ahead c s s.va = 0 := round_same hc.m ha
theorem ahead_zero (hc : c.ok) (ha : s.va < c.m) {n : Nat} (hn : n < c.m) (h : ahead c s n = 0) : n = s.va := round_zero hc.m hn ha h
theorem ahead_inj (hc : c.ok) (ha : s.va < c.m) {n k : Nat} (hn : n < c.m) (hk : k < c.m) (h : ahead c s n = ahead c s k) : n = k := round_inj hc.m ha hn hk h
/-- Numbers from another oldest one on. -/
theorem ahead_from (hc : c.ok) (ha : s.va < c.m) {n x : Nat} (hn : n < c.m) (hx : x < c.m) (h : ahead c s n ≤ ahead c s x) (t : St) (ht : t.va = n) : ahead c t x = ahead c s x - ahead c s n := by
  unfold ahead at *
  rw [ht]
  exact round_from hc.m ha hn hx h

theorem fresh_ok (hc : c.ok) : St.ok c St.fresh := by
  have hm := hc.pos
  refine ⟨by simp [St.fresh], hm, hm, hm, hm, ?_, ?_, ?_, by simp [St.fresh], by simp [St.fresh], by simp [St.fresh], by simp [St.fresh], by simp [St.fresh], by simp [St.fresh], by simp [St.fresh]⟩
  · exact Nat.le_refl _
  · simp [St.fresh, ahead]
  · simp [St.fresh, ahead]

theorem over_ok (hc : c.ok) (h : St.ok c s) (k : Nat) (hk : k ≤ 4) (tm tr : Nat) (htm : tm ≤ c.tim) (htr : tr ≤ c.tri) (h0 : k = 0 ∨ k = 4 → tm = 0) : St.ok c { over s with state := k, timer := tm, tries := tr } := by
  have hm := hc.pos
  refine ⟨hk, hm, hm, hm, hm, ?_, ?_, ?_, by simp [over], by simp [over], htm, h0, htr, h.came, fun _ => ⟨rfl, rfl, rfl, rfl, rfl, rfl, rfl, rfl⟩⟩
  · exact Nat.le_refl _
  · simp [over, ahead]
  · simp [over, ahead]
theorem put_ok (f : Fr) (h : St.ok c s) : St.ok c (put c f s) := ⟨h.state, h.vs, h.va, h.vr, h.vm, h.svs, h.svm, h.vmw, h.q20, h.q32, h.timer, h.tim0, h.tries, h.came, h.down⟩
theorem putC_ok (f : Fr) (h : St.ok c s) : St.ok c (putC c f s) := put_ok _ h
theorem putR_ok (f : Fr) (h : St.ok c s) : St.ok c (putR c f s) := put_ok _ h
theorem tell_ok (e : Nat) (h : St.ok c s) : St.ok c (tell e s) := ⟨h.state, h.vs, h.va, h.vr, h.vm, h.svs, h.svm, h.vmw, h.q20, h.q32, h.timer, h.tim0, h.tries, h.came, h.down⟩
theorem answer_ok (p : Bool) (h : St.ok c s) : St.ok c (answer c p s) := putR_ok _ h
theorem respond_ok (k : Nat) (p : Bool) (h : St.ok c s) : St.ok c (respond c k p s) := putR_ok _ h
theorem report_ok (p : Bool) (h : St.ok c s) : St.ok c (report c p s) := putR_ok _ h
theorem ask_ok (hc : c.ok) (h : St.ok c s) (k kind : Nat) (hk : k = 1 ∨ k = 3) : St.ok c (ask c k kind s) :=
  putC_ok _ (over_ok hc h k (by omega) c.tim 1 (Nat.le_refl _) hc.tri1 (by omega))
theorem callS_ok (hc : c.ok) (h : St.ok c s) : St.ok c (callS c s) := ask_ok hc h 1 5 (.inl rfl)
theorem goDown_ok (hc : c.ok) (h : St.ok c s) (e : Nat) : St.ok c (goDown e s) :=
  tell_ok _ (over_ok hc h 0 (by omega) 0 0 (Nat.zero_le _) (Nat.zero_le _) (by omega))
theorem comeUp_ok (hc : c.ok) (h : St.ok c s) (e : Nat) : St.ok c (comeUp e s) :=
  tell_ok _ (over_ok hc h 2 (by omega) 0 0 (Nat.zero_le _) (Nat.zero_le _) (by omega))
theorem accept_ok (hc : c.ok) (h : St.ok c s) (p : Bool) (e : Nat) : St.ok c (accept c p e s) := respond_ok _ _ (comeUp_ok hc h e)
theorem agree_ok (hc : c.ok) (h : St.ok c s) (p : Bool) : St.ok c (agree c p s) := goDown_ok hc (respond_ok _ _ h) _

theorem maySend_iff : maySend c s = true ↔ s.peer = false ∧ ahead c s s.vs < s.queue.length ∧ ahead c s s.vs < c.win := by
  simp [maySend]

theorem sendNext_va : (sendNext c s).va = s.va := by unfold sendNext upVm; split <;> rfl
theorem sendNext_vs : (sendNext c s).vs = follow c s.vs := by unfold sendNext upVm; split <;> rfl
theorem sendNext_queue : (sendNext c s).queue = s.queue := by unfold sendNext upVm; split <;> rfl
theorem sendNext_state : (sendNext c s).state = s.state := by unfold sendNext upVm; split <;> rfl
theorem sendNext_polling : (sendNext c s).polling = s.polling := by unfold sendNext upVm; split <;> rfl
theorem sendNext_ahead (hc : c.ok) (h : St.ok c s) (hm : maySend c s = true) : ahead c (sendNext c s) (sendNext c s).vs = ahead c s s.vs + 1 := by
  obtain ⟨_, _, h3⟩ := maySend_iff.1 hm
  rw [sendNext_vs]
  show (_ + c.m - (sendNext c s).va) % c.m = _
  rw [sendNext_va]
  exact ahead_follow hc h.vs h.va (by have := hc.winm; omega)
theorem sendNext_ok (hc : c.ok) (h : St.ok c s) (hm : maySend c s = true) (h2 : s.state = 2) : St.ok c (sendNext c s) := by
  obtain ⟨h1, h2', h3⟩ := maySend_iff.1 hm
  have hf := ahead_follow hc h.vs h.va (show ahead c s s.vs + 1 < c.m by have := hc.winm; omega)
  have hfl := follow_lt hc s.vs
  have e1 : ∀ n, ahead c { putC c ⟨0, 1, false, s.vs, s.vr, s.queue.getD (ahead c s s.vs) []⟩ s with vs := follow c s.vs } n = ahead c s n := fun n => rfl
  unfold sendNext upVm
  rw [e1, e1]
  split
  · refine ⟨h.state, hfl, h.va, h.vr, hfl, Nat.le_refl _, ?_, ?_, h.q20, h.q32, h.timer, h.tim0, h.tries, h.came, fun hh => absurd h2 hh⟩
    · show ahead c s (follow c s.vs) ≤ s.queue.length
      omega
    · show ahead c s (follow c s.vs) ≤ c.win
      omega
  · refine ⟨h.state, hfl, h.va, h.vr, h.vm, ?_, h.svm, h.vmw, h.q20, h.q32, h.timer, h.tim0, h.tries, h.came, fun hh => absurd h2 hh⟩
    show ahead c s (follow c s.vs) ≤ ahead c s s.vm
    rename_i hn
    have hn' : ¬ ahead c s s.vm < ahead c s (follow c s.vs) := hn
    omega

theorem pumpN_ok (hc : c.ok) (n : Nat) : ∀ {s : St}, St.ok c s → s.state = 2 → St.ok c (pumpN c n s) ∧ (pumpN c n s).state = 2 := by
  induction n with
  | zero => intro s h h2; exact ⟨h, h2⟩
  | succ n ih =>
    intro s h h2
    unfold pumpN
    by_cases hm : maySend c s = true
    · rw [if_pos hm]
      exact ih (sendNext_ok hc h hm h2) (sendNext_state.trans h2)
    · rw [if_neg hm]
      exact ⟨h, h2⟩
theorem pumpN_stop (hc : c.ok) (n : Nat) : ∀ {s : St}, St.ok c s → s.state = 2 → c.win < n + ahead c s s.vs → maySend c (pumpN c n s) = false := by
  induction n with
  | zero =>
    intro s h _ hn
    have : ¬ maySend c s = true := fun hm => by have := (maySend_iff.1 hm).2.2; omega
    exact eq_false_of_ne_true this
  | succ n ih =>
    intro s h h2 hn
    unfold pumpN
    by_cases hm : maySend c s = true
    · rw [if_pos hm]
      refine ih (sendNext_ok hc h hm h2) (sendNext_state.trans h2) ?_
      rw [sendNext_ahead hc h hm]
      omega
    · rw [if_neg hm]
      exact eq_false_of_ne_true hm
theorem setTimer_ok (hc : c.ok) (h : St.ok c s) (h2 : s.state = 2) : St.ok c (setTimer c s) := by
  unfold setTimer
  split
  · exact ⟨h.state, h.vs, h.va, h.vr, h.vm, h.svs, h.svm, h.vmw, h.q20, h.q32, Nat.zero_le _, fun _ => rfl, h.tries, h.came, fun hh => absurd h2 hh⟩
  · split
    · exact ⟨h.state, h.vs, h.va, h.vr, h.vm, h.svs, h.svm, h.vmw, h.q20, h.q32, Nat.le_refl _, fun hh => by simp only at hh; omega, hc.tri1, h.came, fun hh => absurd h2 hh⟩
    · exact h
theorem pump_ok (hc : c.ok) (h : St.ok c s) (h2 : s.state = 2) : St.ok c (pump c s) := by
  unfold pump
  split
  · exact h
  · have := pumpN_ok hc 16 h h2
    exact setTimer_ok hc this.1 this.2

theorem acknowledge_va (hc : c.ok) (h : St.ok c s) {nr : Nat} (hn : nr < c.m) : (acknowledge c nr s).va = nr := by
  unfold acknowledge
  split
  · rename_i h0
    exact (ahead_zero hc h.va hn h0).symm
  · rfl
theorem acknowledge_state {nr : Nat} : (acknowledge c nr s).state = s.state := by unfold acknowledge; split <;> rfl
theorem acknowledge_ok (hc : c.ok) (h : St.ok c s) (h2 : s.state = 2) {nr : Nat} (hn : nr < c.m) (hg : isGood c s nr = true) : St.ok c (acknowledge c nr s) := by
  have hg' : ahead c s nr ≤ ahead c s s.vm := by simpa [isGood] using hg
  unfold acknowledge
  split
  · exact h
  · rename_i h0
    have hvs : (if ahead c s s.vs < ahead c s nr then nr else s.vs) < c.m := by split; exact hn; exact h.vs
    generalize ht : ({ s with vs := if ahead c s s.vs < ahead c s nr then nr else s.vs, queue := s.queue.drop (ahead c s nr), va := nr, timer := if s.polling then s.timer else 0 } : St) = t
    have hta : t.va = nr := by rw [← ht]
    have htm : t.vm = s.vm := by rw [← ht]
    have hts : t.vs = if ahead c s s.vs < ahead c s nr then nr else s.vs := by rw [← ht]
    have htq : t.queue = s.queue.drop (ahead c s nr) := by rw [← ht]
    have e1 : ahead c t t.vm = ahead c s s.vm - ahead c s nr := by rw [htm]; exact ahead_from hc h.va hn h.vm hg' t hta
    have e2 : ahead c t t.vs ≤ ahead c t t.vm := by
      rw [e1, hts]
      split
      · have : ahead c t nr = 0 := by rw [← hta]; exact ahead_va hc (by rw [hta]; exact hn)
        omega
      · rw [ahead_from hc h.va hn h.vs (by omega) t hta]
        have := h.svs
        omega
    have e3 : ahead c t t.vm ≤ t.queue.length := by rw [e1, htq, List.length_drop]; have := h.svm; omega
    have e4 : ahead c t t.vm ≤ c.win := by rw [e1]; have := h.vmw; omega
    have e5 : t.queue.length ≤ 20 := by rw [htq, List.length_drop]; have := h.q20; omega
    have e6 : ∀ x ∈ t.queue, x.length ≤ 32 := by rw [htq]; exact fun x hx => h.q32 x (List.mem_of_mem_drop hx)
    have e7 : t.timer ≤ c.tim := by rw [← ht]; show (if s.polling then s.timer else 0) ≤ _; split; exact h.timer; exact Nat.zero_le _
    have e8 : t.state = 2 := by rw [← ht]; exact h2
    exact ⟨by omega, by rw [hts]; exact hvs, by rw [hta]; exact hn, by rw [← ht]; exact h.vr, by rw [htm]; exact h.vm, e2, e3, e4, e5, e6, e7, fun hh => by omega, by rw [← ht]; exact h.tries, by rw [← ht]; exact h.came, fun hh => absurd e8 hh⟩

theorem setVs_ok (hc : c.ok) (h : St.ok c s) (h2 : s.state = 2) (p b : Bool) (tm : Nat) (htm : tm ≤ c.tim) : St.ok c { s with vs := s.va, peer := p, polling := b, timer := tm } :=
  ⟨h.state, h.va, h.va, h.vr, h.vm, by show ahead c s s.va ≤ ahead c s s.vm; rw [ahead_va hc h.va]; exact Nat.zero_le _, h.svm, h.vmw, h.q20, h.q32, htm, fun hh => by simp only at hh; omega, h.tries, h.came, fun hh => absurd h2 hh⟩
theorem setPeer_ok (h : St.ok c s) (h2 : s.state = 2) (p : Bool) : St.ok c { s with peer := p } :=
  ⟨h.state, h.vs, h.va, h.vr, h.vm, h.svs, h.svm, h.vmw, h.q20, h.q32, h.timer, h.tim0, h.tries, h.came, fun hh => absurd h2 hh⟩
theorem hearReady_ok (hc : c.ok) (h : St.ok c s) (h2 : s.state = 2) (f : Fr) (hn : s.va = f.nr.toNat) : St.ok c (hearReady c f s) := by
  have h1 : St.ok c { s with peer := f.k == 3, vs := if f.k = 4 then f.nr.toNat else s.vs } := by
    split
    · rw [← hn]
      exact setVs_ok hc h h2 (f.k == 3) s.polling s.timer h.timer
    · exact setPeer_ok h h2 _
  have h3 : St.ok c { s with peer := f.k == 3, vs := f.nr.toNat, polling := false, timer := 0 } := by
    rw [← hn]
    exact setVs_ok hc h h2 (f.k == 3) false 0 (Nat.zero_le _)
  unfold hearReady
  dsimp only
  split
  · exact h1
  · split
    · exact answer_ok _ h1
    · split
      · exact h3
      · exact h1
theorem hearReady_state (f : Fr) : (hearReady c f s).state = s.state := by
  unfold hearReady
  dsimp only
  split
  · rfl
  · split
    · rfl
    · split <;> rfl
theorem hearMsg_ok (hc : c.ok) (h : St.ok c s) (h2 : s.state = 2) (f : Fr) : St.ok c (hearMsg c f s) := by
  unfold hearMsg
  split
  · exact answer_ok _ h
  · rename_i hu
    split
    · refine answer_ok _ ⟨h.state, h.vs, h.va, follow_lt hc _, h.vm, h.svs, h.svm, h.vmw, h.q20, h.q32, h.timer, h.tim0, h.tries, ?_, fun hh => absurd h2 hh⟩
      simp [heldUp] at hu
      simp
      omega
    · split
      · exact putR_ok _ ⟨h.state, h.vs, h.va, h.vr, h.vm, h.svs, h.svm, h.vmw, h.q20, h.q32, h.timer, h.tim0, h.tries, h.came, fun hh => absurd h2 hh⟩
      · split
        · exact answer_ok _ h
        · exact h
theorem hearMsg_state (f : Fr) : (hearMsg c f s).state = s.state := by
  unfold hearMsg
  split
  · rfl
  · split
    · rfl
    · split
      · rfl
      · split <;> rfl
theorem fallApart_ok (hc : c.ok) (h : St.ok c s) (f : Fr) : St.ok c (fallApart c f s) :=
  tell_ok _ (report_ok _ (over_ok hc h 4 (by omega) 0 0 (Nat.zero_le _) (Nat.zero_le _) (fun _ => rfl)))
theorem hearNum_ok (hc : c.ok) (h : St.ok c s) (h2 : s.state = 2) (f : Fr) (hn : f.nr.toNat < c.m) : St.ok c (hearNum c f s) := by
  unfold hearNum
  split
  · exact fallApart_ok hc h f
  · rename_i hg
    have hg' : isGood c s f.nr.toNat = true := eq_true_of_ne_false hg
    have ha := acknowledge_ok hc h h2 hn hg'
    have hs : (acknowledge c f.nr.toNat s).state = 2 := acknowledge_state.trans h2
    split
    · exact pump_ok hc (hearMsg_ok hc ha hs f) ((hearMsg_state f).trans hs)
    · exact pump_ok hc (hearReady_ok hc ha hs f (acknowledge_va hc h hn)) ((hearReady_state f).trans hs)

theorem hearUp_ok (hc : c.ok) (h : St.ok c s) {f : Fr} (h2 : s.state = 2 ∨ f.k = 5 ∨ f.k = 6 ∨ f.k = 8) (hn : f.nr.toNat < c.m) : St.ok c (hearUp c f s) := by
  unfold hearUp
  split
  · exact accept_ok hc h _ _
  · split
    · exact agree_ok hc h _
    · split
      · exact goDown_ok hc h _
      · split
        · exact callS_ok hc (tell_ok _ h)
        · split
          · exact hearNum_ok hc h (by omega) f hn
          · exact h
theorem hearFrame_ok (hc : c.ok) (h : St.ok c s) (f : Fr) (hn : f.nr.toNat < c.m) : St.ok c (hearFrame c f s) := by
  unfold hearFrame
  split
  · unfold hearDown
    split
    · exact accept_ok hc h _ _
    · split
      · exact respond_ok _ _ h
      · split
        · split
          · exact respond_ok _ _ h
          · exact h
        · exact h
  · split
    · unfold hearCalling
      split
      · exact respond_ok _ _ h
      · split
        · exact respond_ok _ _ h
        · split
          · exact comeUp_ok hc h _
          · split
            · exact goDown_ok hc h _
            · exact h
    · split
      · exact hearUp_ok hc h (.inl (by assumption)) hn
      · split
        · unfold hearLeaving
          split
          · exact respond_ok _ _ h
          · split
            · exact respond_ok _ _ h
            · split
              · split
                · exact goDown_ok hc h _
                · exact h
              · exact h
        · split
          · unfold hearBroken
            split
            · exact hearUp_ok hc h (.inr (by assumption)) hn
            · split
              · split
                · exact report_ok _ h
                · exact h
              · exact h
          · exact h
theorem connectS_ok (hc : c.ok) (h : St.ok c s) : St.ok c (connectS c s).2 := by
  unfold connectS
  split
  · exact callS_ok hc h
  · exact h
theorem leaveS_ok (hc : c.ok) (h : St.ok c s) : St.ok c (leaveS c s).2 := by
  unfold leaveS
  split
  · exact h
  · exact ask_ok hc h 3 6 (.inr rfl)
theorem sendS_ok (hc : c.ok) (h : St.ok c s) (b : Msg) : St.ok c (sendS c b s).2 := by
  unfold sendS
  split
  · exact h
  · rename_i h2
    split
    · exact h
    · rename_i hb
      split
      · exact h
      · rename_i hq
        have h2' : s.state = 2 := by omega
        refine pump_ok hc ⟨h.state, h.vs, h.va, h.vr, h.vm, h.svs, ?_, h.vmw, ?_, ?_, h.timer, h.tim0, h.tries, h.came, fun hh => absurd h2' hh⟩ h2'
        · have := h.svm
          show ahead c s s.vm ≤ (s.queue ++ [b]).length
          rw [List.length_append]
          omega
        · show (s.queue ++ [b]).length ≤ 20
          simp
          omega
        · intro x hx
          rcases List.mem_append.1 hx with hx | hx
          · exact h.q32 x hx
          · simp at hx
            subst hx
            omega
theorem change_ok (h : St.ok c s) (was : Bool) : St.ok c (change c was s) := by
  unfold change
  split
  · exact answer_ok _ h
  · exact h
theorem busyS_ok (h : St.ok c s) (on : Bool) : St.ok c (busyS c on s) :=
  change_ok (s := { s with busy := on }) ⟨h.state, h.vs, h.va, h.vr, h.vm, h.svs, h.svm, h.vmw, h.q20, h.q32, h.timer, h.tim0, h.tries, h.came, h.down⟩ _
theorem takenS_ok (h : St.ok c s) : St.ok c (takenS c s) :=
  change_ok (s := { s with came := [] }) ⟨h.state, h.vs, h.va, h.vr, h.vm, h.svs, h.svm, h.vmw, h.q20, h.q32, h.timer, h.tim0, h.tries, Nat.zero_le _, h.down⟩ _
theorem outS_ok (h : St.ok c s) (o : List Msg) : St.ok c { s with out := o } :=
  ⟨h.state, h.vs, h.va, h.vr, h.vm, h.svs, h.svm, h.vmw, h.q20, h.q32, h.timer, h.tim0, h.tries, h.came, h.down⟩
theorem eventsS_ok (h : St.ok c s) (o : List Nat) : St.ok c { s with events := o } :=
  ⟨h.state, h.vs, h.va, h.vr, h.vm, h.svs, h.svm, h.vmw, h.q20, h.q32, h.timer, h.tim0, h.tries, h.came, h.down⟩
theorem tickS_ok (hc : c.ok) (h : St.ok c s) : St.ok c (tickS c s) := by
  unfold tickS
  split
  · exact h
  · rename_i h0
    have hst : s.state ≠ 0 ∧ s.state ≠ 4 := ⟨fun e => h0 (h.tim0 (.inl e)), fun e => h0 (h.tim0 (.inr e))⟩
    split
    · unfold runOut
      split
      · exact goDown_ok (s := { s with timer := 0 }) hc ⟨h.state, h.vs, h.va, h.vr, h.vm, h.svs, h.svm, h.vmw, h.q20, h.q32, Nat.zero_le _, fun _ => rfl, h.tries, h.came, h.down⟩ _
      · rename_i ht
        have ht' : s.tries + 1 ≤ c.tri := by have := h.tries; simp only at ht; omega
        have hh : St.ok c { s with tries := s.tries + 1, timer := c.tim } := ⟨h.state, h.vs, h.va, h.vr, h.vm, h.svs, h.svm, h.vmw, h.q20, h.q32, Nat.le_refl _, fun hh => by simp only at hh; omega, ht', h.came, h.down⟩
        split
        · exact putC_ok _ hh
        · split
          · exact putC_ok _ hh
          · split
            · rename_i h2
              exact putC_ok _ ⟨h.state, h.vs, h.va, h.vr, h.vm, h.svs, h.svm, h.vmw, h.q20, h.q32, Nat.le_refl _, fun hh => by simp only at hh; omega, ht', h.came, fun hh => absurd h2 hh⟩
            · exact hh
    · exact ⟨h.state, h.vs, h.va, h.vr, h.vm, h.svs, h.svm, h.vmw, h.q20, h.q32, by show s.timer - 1 ≤ _; have := h.timer; omega, fun hh => by simp only at hh; omega, h.tries, h.came, h.down⟩
end
end Go.Proofs.YtkalonhalhdlaaaDoor

/-
  Which blocks have turned, which not; rows that one owns behind that.
-/
namespace Go.Proofs.YtkalonhalhdlaaaDoor
open Go.RowKit

/-- Nothing that was there has turned, but blocks in X. -/
structure Keeps (X : Nat → Prop) (w w' : World) : Prop where
  os : w'.os = w.os
  tape : w'.tape = w.tape
  output : w'.output = w.output
  size : w.heap.size ≤ w'.heap.size
  block : ∀ k, k < w.heap.size → ¬ X k → w'.heap[k]? = w.heap[k]?

theorem Keeps.refl (X : Nat → Prop) (w : World) : Keeps X w w := ⟨rfl, rfl, rfl, Nat.le_refl _, fun _ _ _ => rfl⟩
theorem Keeps.trans {X : Nat → Prop} {a b c : World} (h : Keeps X a b) (k : Keeps X b c) : Keeps X a c :=
  ⟨k.os.trans h.os, k.tape.trans h.tape, k.output.trans h.output, Nat.le_trans h.size k.size, fun i hi hx => (k.block i (Nat.lt_of_lt_of_le hi h.size) hx).trans (h.block i hi hx)⟩
theorem Keeps.mono {X Y : Nat → Prop} {a b : World} (h : Keeps X a b) (hXY : ∀ k, X k → Y k) : Keeps Y a b :=
  ⟨h.os, h.tape, h.output, h.size, fun i hi hx => h.block i hi fun hh => hx (hXY i hh)⟩
theorem Keeps.of {X : Nat → Prop} {w w' : World} (h : Below w.heap.size w w') : Keeps X w w' := ⟨h.os, h.tape, h.output, h.size, fun k hk _ => h.block k hk⟩
theorem Keeps.alloc {X : Nat → Prop} {a w : World} (h : Keeps X a w) (o : Obj) : Keeps X a (w.alloc o) :=
  h.trans (Keeps.of ((Below.refl _ w).alloc (Nat.le_refl _) o))
theorem Keeps.drew {X : Nat → Prop} {a w : World} (h : Keeps X a w) : Keeps X a w.drew := ⟨h.os, h.tape, h.output, h.size, h.block⟩
theorem Keeps.drewN {X : Nat → Prop} {a w : World} (h : Keeps X a w) (n : Nat) : Keeps X a (w.drewN n) := ⟨h.os, h.tape, h.output, h.size, h.block⟩
theorem Keeps.setCell {X : Nat → Prop} {a w : World} (h : Keeps X a w) {p : Addr} (hp : X p.block) (u : Value) : Keeps X a (w.setCell p u) :=
  h.trans ⟨rfl, rfl, rfl, by simp [World.setCell], fun k _ hx => Below.heap_setCell _ _ _ _ (fun e => hx (e ▸ hp))⟩
theorem Keeps.setB {b : Nat} {a w : World} (h : Keeps (· = b) a w) (off : Nat) (u : Value) : Keeps (· = b) a (w.setCell ⟨b, off, none⟩ u) := h.setCell (p := ⟨b, off, none⟩) rfl u
/-- A store into a block that was not there. -/
theorem Keeps.setNew {X : Nat → Prop} {a w : World} (h : Keeps X a w) {p : Addr} (hp : a.heap.size ≤ p.block) (u : Value) : Keeps X a (w.setCell p u) :=
  ⟨h.os, h.tape, h.output, by rw [show (w.setCell p u).heap.size = w.heap.size by simp [World.setCell]]; exact h.size, fun k hk hx => (Below.heap_setCell _ _ _ _ (by omega)).trans (h.block k hk hx)⟩
theorem Keeps.below {w w' : World} (h : Keeps (fun _ => False) w w') : Below w.heap.size w w' := ⟨h.os, h.tape, h.output, h.size, fun k hk => h.block k hk id⟩
theorem Keeps.cell {X : Nat → Prop} {w w' : World} (h : Keeps X w w') {p : Addr} (hp : p.block < w.heap.size) (hx : ¬ X p.block) : w'.cell? p = w.cell? p := World.cell?_of_block (w := w) (h.block p.block hp hx)
theorem Seg.keeps {X : Nat → Prop} {w w' : World} {b off : Nat} {l : List UInt8} (h : Seg w b off l) (hk : Keeps X w w') (hb : b < w.heap.size) (hx : ¬ X b) : Seg w' b off l :=
  fun i hi => by rw [hk.cell (p := ⟨b, off + i, none⟩) hb hx]; exact h i hi
theorem ownsRow_keeps {X : Nat → Prop} {w w' : World} {b0 : Nat} {e : TypeId} {size : Nat} {v : Value} {n : Nat} {xs : List Value} (h : w.ownsRow b0 e size v n xs) (hk : Keeps X w w') (hx : ∀ k, X k → ∀ c fz, w.heap[k]? ≠ some (.cells c e fz)) : w'.ownsRow b0 e size v n xs := by
  obtain ⟨h1, h2⟩ := h
  refine ⟨h1, ?_⟩
  rcases h2 with h2 | ⟨g, cap, cur, e1, e2, e3, e4⟩
  · exact Or.inl h2
  · exact Or.inr ⟨g, cap, cur, e1, e2, by rw [hk.block g (Array.getElem?_eq_some_iff.1 e3).1 (fun hg => hx g hg _ _ e3)]; exact e3, e4⟩
theorem Keeps.grown {w w' : World} {row : Option Nat} (h : w.grownBy w' row) : Keeps (fun k => some k = row) w w' := ⟨h.os, h.tape, h.output, h.size, fun k hk hx => h.block k hk hx⟩
/-- What a value's block is: one of those that may turn, or new. -/
def Mine (X : Nat → Prop) (n : Nat) (v : Value) : Prop := ∀ k, v.ownBlock = some k → X k ∨ n ≤ k
theorem Mine.nil (X : Nat → Prop) (n : Nat) : Mine X n (.slice none 0 0) := fun k h => by simp [Value.ownBlock] at h
theorem ownsRow_isRow {w : World} {base : Nat} {e : TypeId} {size : Nat} {v : Value} {n : Nat} {xs : List Value} (h : w.ownsRow base e size v n xs) {k : Nat} (hk : v.ownBlock = some k) : ∃ c, w.heap[k]? = some (.cells c e (0, 0)) := by
  rcases h.2 with ⟨hv, _⟩ | ⟨g, cap, cur, hv, _, hg, _⟩
  · rw [hv] at hk; simp [Value.ownBlock] at hk
  · rw [hv] at hk
    simp [Value.ownBlock] at hk
    subst hk
    exact ⟨cur, hg⟩
theorem size_setCell (w : World) (p : Addr) (u : Value) : (w.setCell p u).heap.size = w.heap.size := by
  show (w.heap.modify _ _).size = _
  rw [Array.size_modify]
theorem alloc1_s (w : World) (o : Obj) : (w.alloc o).heap.size = w.heap.size + 1 := by
  show (w.heap.push o).size = _
  rw [Array.size_push]
theorem alloc1_a (w : World) (o : Obj) : (w.alloc o).heap[w.heap.size]? = some o := by
  show (w.heap.push o)[w.heap.size]? = some o
  rw [Array.getElem?_push]
  simp
theorem news1 (w : World) (u : Value) (e : TypeId) : ∀ j x, [u][j]? = some x → (w.alloc (.cells #[u] e)).cell? ((⟨w.heap.size, 0, none⟩ : Addr).add j) = some x := by
  intro j x hj
  rcases j with _ | j
  · simp at hj
    subst hj
    rw [Go.WideShapes.add_plain, Lib.cell_of_heap (alloc1_a w _)]
    rfl
  · simp at hj
theorem news2 (w : World) (a b : Value) (e : TypeId) : ∀ j x, [a, b][j]? = some x → (w.alloc (.cells #[a, b] e)).cell? ((⟨w.heap.size, 0, none⟩ : Addr).add j) = some x := by
  intro j x hj
  rcases j with _ | _ | j
  · simp at hj
    subst hj
    rw [Go.WideShapes.add_plain, Lib.cell_of_heap (alloc1_a w _)]
    rfl
  · simp at hj
    subst hj
    rw [Go.WideShapes.add_plain, Lib.cell_of_heap (alloc1_a w _)]
    rfl
  · simp at hj
theorem Seg.take {w : World} {b off : Nat} {l : List UInt8} (h : Seg w b off l) (n : Nat) : Seg w b off (l.take n) := by
  intro i hi
  have hi2 : i < n ∧ i < l.length := by rw [List.length_take] at hi; omega
  rw [h i hi2.2]
  simp [List.getD, hi2.1]
end Go.Proofs.YtkalonhalhdlaaaDoor

/-
  Blocks and their cells, one by one.
-/
namespace Go.Proofs.YtkalonhalhdlaaaDoor
open Go.RowKit

/-- A block whose cells are known, one of them written. -/
theorem block_set {w : World} {F j : Nat} {cs : Array Value} {t : TypeId} {fz : Nat × Nat} (h : w.heap[F]? = some (.cells cs t fz)) (v : Value) : (w.setCell ⟨F, j, none⟩ v).heap[F]? = some (.cells (cs.setIfInBounds j v) t fz) := by
  skip
  simp [World.setCell, Array.getElem?_modify, h]
theorem alloc2_s (w : World) (o p : Obj) : ((w.alloc o).alloc p).heap.size = w.heap.size + 2 := by rw [alloc1_s, alloc1_s]
end Go.Proofs.YtkalonhalhdlaaaDoor

/-
  A station in memory: its block, its channel, its lists; who owns which block.
-/
namespace Go.Proofs.YtkalonhalhdlaaaDoor
open Go.RowKit

/-- The owner's number of a part of thing i: 0 its block and channel, 1 its queue, 2 what came, 3 what goes out, 4 its events. -/
def tg (i p : Nat) : Nat := 5 * i + p + 1
theorem tg_ne {i j p q : Nat} (hp : p < 5) (hq : q < 5) (h : i ≠ j ∨ p ≠ q) : tg i p ≠ tg j q := by unfold tg; omega
theorem tg_pos (i p : Nat) : tg i p ≠ 0 := by unfold tg; omega

/-- Bytes in memory, of owner t. -/
def BytesAt (w : World) (own : Nat → Nat) (t : Nat) (x : Value) (m : Msg) : Prop :=
  w.ownsRow 0 5 1 x m.length (Lib.byteCells m) ∧ ∀ k, x.ownBlock = some k → own k = t
/-- A list of lists of bytes in memory: its row and each of its lists, of owner t. -/
structure Lst (w : World) (own : Nat → Nat) (t : Nat) (v : Value) (ents : List Value) (l : List Msg) : Prop where
  row : w.ownsRow 0 22 1 v l.length ents
  rown : ∀ k, v.ownBlock = some k → own k = t
  each : ∀ (j : Nat) (x : Value) (m : Msg), ents[j]? = some x → l[j]? = some m → BytesAt w own t x m

theorem ownsRow_keepsB {X : Nat → Prop} {w w' : World} {b0 : Nat} {e : TypeId} {size : Nat} {v : Value} {n : Nat} {xs : List Value} (h : w.ownsRow b0 e size v n xs) (hk : Keeps X w w') (hx : ∀ k, v.ownBlock = some k → ¬ X k) : w'.ownsRow b0 e size v n xs := by
  obtain ⟨h1, h2⟩ := h
  refine ⟨h1, ?_⟩
  rcases h2 with h2 | ⟨g, cap, cur, e1, e2, e3, e4⟩
  · exact Or.inl h2
  · refine Or.inr ⟨g, cap, cur, e1, e2, ?_, e4⟩
    rw [hk.block g (Array.getElem?_eq_some_iff.1 e3).1 (hx g (by rw [e1]; rfl))]
    exact e3

section
variable {w w' : World} {own own' : Nat → Nat} {t : Nat} {v x : Value} {ents : List Value} {l : List Msg} {m : Msg} {X : Nat → Prop}
theorem BytesAt.keeps (h : BytesAt w own t x m) (hk : Keeps X w w') (hx : ∀ k, X k → own k ≠ t) (ho : ∀ k, k < w.heap.size → own' k = own k) : BytesAt w' own' t x m :=
  ⟨ownsRow_keepsB h.1 hk (fun k hb hX => hx k hX (h.2 k hb)), fun k hb => (ho k (World.ownsRow.lt h.1 k hb).2).trans (h.2 k hb)⟩
theorem Lst.keeps (h : Lst w own t v ents l) (hk : Keeps X w w') (hx : ∀ k, X k → own k ≠ t) (ho : ∀ k, k < w.heap.size → own' k = own k) : Lst w' own' t v ents l :=
  ⟨ownsRow_keepsB h.row hk (fun k hb hX => hx k hX (h.rown k hb)), fun k hb => (ho k (World.ownsRow.lt h.row k hb).2).trans (h.rown k hb), fun j y mm h1 h2 => (h.each j y mm h1 h2).keeps hk hx ho⟩
theorem Lst.nil (w : World) (own : Nat → Nat) (t : Nat) : Lst w own t (.slice none 0 0) [] [] :=
  ⟨World.ownsRow_nil _ _ _ _, fun k h => by simp [Value.ownBlock] at h, fun j x m h => by simp at h⟩
theorem Lst.len (h : Lst w own t v ents l) : ents.length = l.length := by have := h.row.1; omega
theorem Lst.slice (h : Lst w own t v ents l) : ∃ p cap, v = .slice p l.length cap ∧ l.length ≤ cap ∧ cap ≤ maxLen := by
  rcases h.row.2 with ⟨h1, h2⟩ | ⟨g, cap, cur, h1, _, _, h3, h4, _⟩
  · exact ⟨none, 0, by rw [h1, h2], by omega, by unfold maxLen; omega⟩
  · exact ⟨_, cap, h1, h3, h4⟩
end

/-- Its numbers are within their bounds (what the walks want). -/
structure St.fit (c : Cfg) (s : St) : Prop where
  state : s.state ≤ 4
  vs : s.vs < c.m
  va : s.va < c.m
  vr : s.vr < c.m
  vm : s.vm < c.m
  q20 : s.queue.length ≤ 20
  q32 : ∀ x ∈ s.queue, x.length ≤ 32
  timer : s.timer ≤ c.tim
  tries : s.tries ≤ c.tri
  came : s.came.length ≤ c.room
theorem St.ok.fit {c : Cfg} {s : St} (h : s.ok c) : s.fit c := ⟨h.state, h.vs, h.va, h.vr, h.vm, h.q20, h.q32, h.timer, h.tries, h.came⟩
theorem St.fit.out {c : Cfg} {s : St} (h : s.fit c) (x : List Msg) : St.fit c { s with out := x } := ⟨h.state, h.vs, h.va, h.vr, h.vm, h.q20, h.q32, h.timer, h.tries, h.came⟩
theorem St.fit.events {c : Cfg} {s : St} (h : s.fit c) (x : List Nat) : St.fit c { s with events := x } := ⟨h.state, h.vs, h.va, h.vr, h.vm, h.q20, h.q32, h.timer, h.tries, h.came⟩
theorem over_fit {c : Cfg} {s : St} (hc : c.ok) (h : s.fit c) (k : Nat) (hk : k ≤ 4) (tm tr : Nat) (htm : tm ≤ c.tim) (htr : tr ≤ c.tri) : St.fit c { over s with state := k, timer := tm, tries := tr } :=
  ⟨hk, hc.pos, hc.pos, hc.pos, hc.pos, by simp [over], by simp [over], htm, htr, h.came⟩

/-- A station's cells. -/
def stCells (c : Cfg) (s : St) (ch : Nat) (q cm o ev : Value) : Array Value :=
  #[.int .i64 c.m, .int .i64 c.win, .int .i64 c.tim, .int .i64 c.tri, .int .i64 c.room, .int .i64 c.addr, .chan (some ch), .int .i64 s.state,
    .int .i64 s.vs, .int .i64 s.va, .int .i64 s.vr, .int .i64 s.vm, q, .int .i64 s.timer, .int .i64 s.tries, .bool s.polling, .bool s.peer, .bool s.rejected,
    .bool s.busy, cm, o, ev]

/-- A station in memory. -/
structure SAt (w : World) (own : Nat → Nat) (i b : Nat) (c : Cfg) (s : St) (cl : Bool) (ch : Nat) (q cm o ev : Value) (qe ce oe : List Value) : Prop where
  head : w.heap[b]? = some (.cells (stCells c s ch q cm o ev) 84 (0, 0))
  ownb : own b = tg i 0
  chan : w.heap[ch]? = some (.chan 0 #[] cl 0 0 false)
  ownc : own ch = tg i 0
  lq : Lst w own (tg i 1) q qe s.queue
  lcm : Lst w own (tg i 2) cm ce s.came
  lo : Lst w own (tg i 3) o oe s.out
  lev : w.ownsRow 0 3 1 ev s.events.length (s.events.map fun n => .int .i64 (n : Nat))
  owne : ∀ k, ev.ownBlock = some k → own k = tg i 4
  ctl : Ctl w
  own0 : own 0 = 0
  new0 : ∀ k, w.heap.size ≤ k → own k = 0
  cok : c.ok
  sok : s.fit c
def Stn (w : World) (own : Nat → Nat) (i b : Nat) (c : Cfg) (s : St) (cl : Bool) : Prop := ∃ ch q cm o ev qe ce oe, SAt w own i b c s cl ch q cm o ev qe ce oe

/-- What a call of station i may do: turn blocks of its own, make new ones. -/
structure Upd (i : Nat) (own own' : Nat → Nat) (w w' : World) : Prop where
  keeps : Keeps (fun k => ∃ p, p < 5 ∧ own k = tg i p) w w'
  same : ∀ k, k < w.heap.size → own' k = own k
theorem Upd.refl (i : Nat) (own : Nat → Nat) (w : World) : Upd i own own w w := ⟨Keeps.refl _ _, fun _ _ => rfl⟩
theorem Upd.trans {i : Nat} {o1 o2 o3 : Nat → Nat} {a b c : World} (h : Upd i o1 o2 a b) (k : Upd i o2 o3 b c) : Upd i o1 o3 a c := by
  refine ⟨⟨k.keeps.os.trans h.keeps.os, k.keeps.tape.trans h.keeps.tape, k.keeps.output.trans h.keeps.output, Nat.le_trans h.keeps.size k.keeps.size, fun j hj hx => ?_⟩, fun j hj => (k.same j (Nat.lt_of_lt_of_le hj h.keeps.size)).trans (h.same j hj)⟩
  have h1 := h.keeps.block j hj hx
  refine (k.keeps.block j (Nat.lt_of_lt_of_le hj h.keeps.size) ?_).trans h1
  rintro ⟨p, hp, e⟩
  exact hx ⟨p, hp, (h.same j hj).symm.trans e⟩

theorem Ctl.keeps {X : Nat → Prop} {w w' : World} (h : Ctl w) (hk : Keeps X w w') (h0 : 0 < w.heap.size) (hx : ¬ X 0) : Ctl w' :=
  fun i hi => by rw [hk.cell (p := ⟨0, i, none⟩) h0 hx]; exact h i hi

section
variable {w w' : World} {own own' : Nat → Nat} {i b : Nat} {c : Cfg} {s : St} {cl : Bool} {ch : Nat} {q cm o ev : Value} {qe ce oe : List Value}
theorem SAt.lt (h : SAt w own i b c s cl ch q cm o ev qe ce oe) : b < w.heap.size := (Array.getElem?_eq_some_iff.1 h.head).1
theorem SAt.pos (h : SAt w own i b c s cl ch q cm o ev qe ce oe) : 0 < w.heap.size := Nat.lt_of_le_of_lt (Nat.zero_le _) h.lt
theorem SAt.cell (h : SAt w own i b c s cl ch q cm o ev qe ce oe) (j : Nat) {v : Value} (hj : (stCells c s ch q cm o ev)[j]? = some v) : w.cell? ⟨b, j, none⟩ = some v := by
  rw [Lib.cell_of_heap h.head]; exact hj
theorem SAt.fz (h : SAt w own i b c s cl ch q cm o ev qe ce oe) (j : Nat) : w.frozen? ⟨b, j, none⟩ = false := Lib.frozen_of_heap h.head j
theorem SAt.c_m (h : SAt w own i b c s cl ch q cm o ev qe ce oe) : w.cell? ⟨b, 0, none⟩ = some (.int .i64 c.m) := h.cell 0 rfl
theorem SAt.c_win (h : SAt w own i b c s cl ch q cm o ev qe ce oe) : w.cell? ⟨b, 1, none⟩ = some (.int .i64 c.win) := h.cell 1 rfl
theorem SAt.c_tim (h : SAt w own i b c s cl ch q cm o ev qe ce oe) : w.cell? ⟨b, 2, none⟩ = some (.int .i64 c.tim) := h.cell 2 rfl
theorem SAt.c_tri (h : SAt w own i b c s cl ch q cm o ev qe ce oe) : w.cell? ⟨b, 3, none⟩ = some (.int .i64 c.tri) := h.cell 3 rfl
theorem SAt.c_room (h : SAt w own i b c s cl ch q cm o ev qe ce oe) : w.cell? ⟨b, 4, none⟩ = some (.int .i64 c.room) := h.cell 4 rfl
theorem SAt.c_addr (h : SAt w own i b c s cl ch q cm o ev qe ce oe) : w.cell? ⟨b, 5, none⟩ = some (.int .i64 c.addr) := h.cell 5 rfl
theorem SAt.c_ch (h : SAt w own i b c s cl ch q cm o ev qe ce oe) : w.cell? ⟨b, 6, none⟩ = some (.chan (some ch)) := h.cell 6 rfl
theorem SAt.c_state (h : SAt w own i b c s cl ch q cm o ev qe ce oe) : w.cell? ⟨b, 7, none⟩ = some (.int .i64 s.state) := h.cell 7 rfl
theorem SAt.c_vs (h : SAt w own i b c s cl ch q cm o ev qe ce oe) : w.cell? ⟨b, 8, none⟩ = some (.int .i64 s.vs) := h.cell 8 rfl
theorem SAt.c_va (h : SAt w own i b c s cl ch q cm o ev qe ce oe) : w.cell? ⟨b, 9, none⟩ = some (.int .i64 s.va) := h.cell 9 rfl
theorem SAt.c_vr (h : SAt w own i b c s cl ch q cm o ev qe ce oe) : w.cell? ⟨b, 10, none⟩ = some (.int .i64 s.vr) := h.cell 10 rfl
theorem SAt.c_vm (h : SAt w own i b c s cl ch q cm o ev qe ce oe) : w.cell? ⟨b, 11, none⟩ = some (.int .i64 s.vm) := h.cell 11 rfl
theorem SAt.c_q (h : SAt w own i b c s cl ch q cm o ev qe ce oe) : w.cell? ⟨b, 12, none⟩ = some (q) := h.cell 12 rfl
theorem SAt.c_timer (h : SAt w own i b c s cl ch q cm o ev qe ce oe) : w.cell? ⟨b, 13, none⟩ = some (.int .i64 s.timer) := h.cell 13 rfl
theorem SAt.c_tries (h : SAt w own i b c s cl ch q cm o ev qe ce oe) : w.cell? ⟨b, 14, none⟩ = some (.int .i64 s.tries) := h.cell 14 rfl
theorem SAt.c_polling (h : SAt w own i b c s cl ch q cm o ev qe ce oe) : w.cell? ⟨b, 15, none⟩ = some (.bool s.polling) := h.cell 15 rfl
theorem SAt.c_peer (h : SAt w own i b c s cl ch q cm o ev qe ce oe) : w.cell? ⟨b, 16, none⟩ = some (.bool s.peer) := h.cell 16 rfl
theorem SAt.c_rejected (h : SAt w own i b c s cl ch q cm o ev qe ce oe) : w.cell? ⟨b, 17, none⟩ = some (.bool s.rejected) := h.cell 17 rfl
theorem SAt.c_busy (h : SAt w own i b c s cl ch q cm o ev qe ce oe) : w.cell? ⟨b, 18, none⟩ = some (.bool s.busy) := h.cell 18 rfl
theorem SAt.c_cm (h : SAt w own i b c s cl ch q cm o ev qe ce oe) : w.cell? ⟨b, 19, none⟩ = some (cm) := h.cell 19 rfl
theorem SAt.c_o (h : SAt w own i b c s cl ch q cm o ev qe ce oe) : w.cell? ⟨b, 20, none⟩ = some (o) := h.cell 20 rfl
theorem SAt.c_ev (h : SAt w own i b c s cl ch q cm o ev qe ce oe) : w.cell? ⟨b, 21, none⟩ = some (ev) := h.cell 21 rfl
/-- Its block is written; its numbers are others. -/
theorem SAt.wrote (h : SAt w own i b c s cl ch q cm o ev qe ce oe) {s' : St} {w' : World} (hk : Keeps (· = b) w w') (hh : w'.heap[b]? = some (.cells (stCells c s' ch q cm o ev) 84 (0, 0)))
    (e1 : s'.queue = s.queue) (e2 : s'.came = s.came) (e3 : s'.out = s.out) (e4 : s'.events = s.events) (hok : s'.fit c) : SAt w' own i b c s' cl ch q cm o ev qe ce oe := by
  have hne : ∀ p, p ≠ 0 → p < 5 → ∀ k, k = b → own k ≠ tg i p := fun p hp hp5 k hk => by rw [hk, h.ownb]; exact tg_ne (by omega) hp5 (.inr (fun e => hp e.symm))
  have hchb : ch ≠ b := fun e => by have := h.head; rw [← e, h.chan] at this; simp at this
  refine ⟨hh, h.ownb, by rw [hk.block ch (Array.getElem?_eq_some_iff.1 h.chan).1 hchb]; exact h.chan, h.ownc, ?_, ?_, ?_, ?_, h.owne, h.ctl.keeps hk h.pos (fun e => ?_), h.own0, fun k hs => h.new0 k (Nat.le_trans hk.size hs), h.cok, hok⟩
  · rw [e1]; exact h.lq.keeps hk (hne 1 (by omega) (by omega)) (fun _ _ => rfl)
  · rw [e2]; exact h.lcm.keeps hk (hne 2 (by omega) (by omega)) (fun _ _ => rfl)
  · rw [e3]; exact h.lo.keeps hk (hne 3 (by omega) (by omega)) (fun _ _ => rfl)
  · rw [e4]; exact ownsRow_keepsB h.lev hk (fun k hb hX => hne 4 (by omega) (by omega) k hX (h.owne k hb))
  · have := h.ownb; rw [← e, h.own0] at this; exact tg_pos _ _ this.symm
theorem SAt.upd (h : SAt w own i b c s cl ch q cm o ev qe ce oe) {w' : World} (hk : Keeps (· = b) w w') : Upd i own own w w' :=
  ⟨hk.mono (fun k hk => ⟨0, by omega, by rw [hk]; exact h.ownb⟩), fun _ _ => rfl⟩
/-- Others have worked: nothing of its own has turned. -/
theorem SAt.others (h : SAt w own i b c s cl ch q cm o ev qe ce oe) {X : Nat → Prop} (hk : Keeps X w w') (hx : ∀ k, X k → own k ≠ 0 → ∀ p, p < 5 → own k ≠ tg i p) (hx0 : ¬ X 0) (ho : ∀ k, k < w.heap.size → own' k = own k) (hn : ∀ k, w'.heap.size ≤ k → own' k = 0) : SAt w' own' i b c s cl ch q cm o ev qe ce oe := by
  have hx' : ∀ p, p < 5 → ∀ k, X k → own k ≠ tg i p := fun p hp k hX e => hx k hX (by rw [e]; exact tg_pos _ _) p hp e
  have hlc := (Array.getElem?_eq_some_iff.1 h.chan).1
  refine ⟨?_, (ho b h.lt).trans h.ownb, ?_, (ho ch hlc).trans h.ownc, h.lq.keeps hk (hx' 1 (by omega)) ho, h.lcm.keeps hk (hx' 2 (by omega)) ho, h.lo.keeps hk (hx' 3 (by omega)) ho, ownsRow_keepsB h.lev hk (fun k hb hX => hx' 4 (by omega) k hX (h.owne k hb)), fun k hb => (ho k (World.ownsRow.lt h.lev k hb).2).trans (h.owne k hb), h.ctl.keeps hk h.pos hx0, (ho 0 h.pos).trans h.own0, hn, h.cok, h.sok⟩
  · rw [hk.block b h.lt (fun hX => hx' 0 (by omega) b hX h.ownb)]; exact h.head
  · rw [hk.block ch hlc (fun hX => hx' 0 (by omega) ch hX h.ownc)]; exact h.chan
theorem SAt.later (h : SAt w own i b c s cl ch q cm o ev qe ce oe) (hb : Below w.heap.size w w') : SAt w' own i b c s cl ch q cm o ev qe ce oe :=
  h.others (X := fun _ => False) (Keeps.of hb) (fun _ hX => absurd hX id) id (fun _ _ => rfl) (fun k hs => h.new0 k (Nat.le_trans hb.size hs))
end

/-- A call that answers nothing has made of station s the station s'. -/
def Did (i b : Nat) (c : Cfg) (s' : St) (cl : Bool) (own : Nat → Nat) (w : World) (e : Ending) (w' : World) : Prop :=
  e = .returned (.tuple #[]) ∧ ∃ own', Stn w' own' i b c s' cl ∧ Upd i own own' w w'
theorem Upd.of {i : Nat} {own own1 : Nat → Nat} {w W w1 : World} (hb : Below w.heap.size w W) (h : Upd i own own1 W w1) : Upd i own own1 w w1 :=
  (show Upd i own own w W from ⟨Keeps.of hb, fun _ _ => rfl⟩).trans h
end Go.Proofs.YtkalonhalhdlaaaDoor

/-
  What the methods of a station do that only look.
-/
namespace Go.Proofs.YtkalonhalhdlaaaDoor
open Go.RowKit

section
variable {w : World} {own : Nat → Nat} {i b : Nat} {c : Cfg} {s : St} {cl : Bool} {ch : Nat} {q cm o ev : Value} {qe ce oe : List Value}

theorem SAt.drewN (h : SAt w own i b c s cl ch q cm o ev qe ce oe) (n : Nat) : SAt (w.drewN n) own i b c s cl ch q cm o ev qe ce oe :=
  h.others (X := fun _ => False) ((Keeps.refl _ w).drewN n) (fun _ hX => absurd hX id) id (fun _ _ => rfl) h.new0

set_option maxHeartbeats 1000000 in
set_option maxRecDepth 100000 in
theorem ahead_any (h : SAt w own i b c s cl ch q cm o ev qe ce oe) (n : Nat) (hn : n < c.m) :
    Calls Tryd.prog 84 #[.pointer (some ⟨b, 0, none⟩), .int .i64 n] w fun e w' => e = .returned (.int .i64 (ahead c s n : Nat)) ∧ ∃ k, w' = w.drewN k := by
  have c0 := h.c_m
  have c9 := h.c_va
  have hm := h.cok.m
  have ha := h.sok.va
  have hm0 : 0 < c.m := h.cok.pos
  have hm1 : c.m ≤ 128 := by omega
  have hz : ((c.m : Int) == 0) = false := by simp; omega
  have hf : ((n : Int) - s.va + c.m) % c.m = (ahead c s n : Nat) := by
    unfold ahead
    have e : (n : Int) - s.va + c.m = ((n + c.m - s.va : Nat) : Int) := by omega
    rw [e]
    rfl
  have HF := hide hf
  clear hf hm h
  go_enter Tryd.func84, Tryd.ntmps84
  go_wp2
  go_quiet (fail)
  go_wp2
  go_ret
  exact ⟨ret_int (unhide HF), _, rfl⟩

set_option maxHeartbeats 1000000 in
set_option maxRecDepth 100000 in
theorem following_any (h : SAt w own i b c s cl ch q cm o ev qe ce oe) (n : Nat) (hn : n < c.m) :
    Calls Tryd.prog 85 #[.pointer (some ⟨b, 0, none⟩), .int .i64 n] w fun e w' => e = .returned (.int .i64 (follow c n : Nat)) ∧ ∃ k, w' = w.drewN k := by
  have c0 := h.c_m
  have hm := h.cok.m
  have hm0 : 0 < c.m := h.cok.pos
  have hm1 : c.m ≤ 128 := by omega
  have hz : ((c.m : Int) == 0) = false := by simp; omega
  have hf : ((n : Int) + 1) % c.m = (follow c n : Nat) := rfl
  have HF := hide hf
  clear hf hm h
  go_enter Tryd.func85, Tryd.ntmps85
  first | (go_wp2; go_ret; exact ⟨ret_int (unhide HF), 0, rfl⟩) | (go_wp2; go_quiet (fail); go_wp2; go_ret; exact ⟨ret_int (unhide HF), _, rfl⟩)

set_option maxHeartbeats 1000000 in
set_option maxRecDepth 100000 in
theorem isGood_any (h : SAt w own i b c s cl ch q cm o ev qe ce oe) (n : Nat) (hn : n < c.m) :
    Calls Tryd.prog 87 #[.pointer (some ⟨b, 0, none⟩), .int .i64 n] w fun e w' => e = .returned (.bool (isGood c s n)) ∧ ∃ k, w' = w.drewN k := by
  have c11 := h.c_vm
  have k1 := fun j => ahead_any (h.drewN j) n hn
  have k2 := fun j => ahead_any (h.drewN j) s.vm h.sok.vm
  have hf : decide (ahead c s n ≤ ahead c s s.vm) = isGood c s n := rfl
  have HF := hide hf
  clear hf h
  generalize ahead c s n = x at k1 HF
  generalize ahead c s s.vm = y at k2 HF
  go_enter Tryd.func87, Tryd.ntmps87
  go_wp2
  go_quiet (first | (go_at_call_of 84 ((n : Int)); exact Calls.quiet_of (k1 _)) | (go_at_call_of 84 ((s.vm : Int)); exact Calls.quiet_of (k2 _)))
  go_wp2
  go_ret
  exact ⟨ret_bool (unhide HF), _, rfl⟩

set_option maxHeartbeats 1000000 in
set_option maxRecDepth 100000 in
theorem isHeldUp_any (h : SAt w own i b c s cl ch q cm o ev qe ce oe) :
    Calls Tryd.prog 48 #[.pointer (some ⟨b, 0, none⟩)] w fun e w' => e = .returned (.bool (heldUp c s)) ∧ ∃ k, w' = w.drewN k := by
  have c18 := h.c_busy
  have c19 := h.c_cm
  have c4 := h.c_room
  obtain ⟨p, cap, rfl, hc1, hc2⟩ := h.lcm.slice
  have hr := h.sok.came
  have hr2 := h.cok.room16
  have hf : heldUp c s = (s.busy || decide (c.room ≤ s.came.length)) := rfl
  have HF := hide hf
  clear hf
  clear h
  unfold maxLen at hc2
  generalize s.came.length = n at *
  cases hb : s.busy with
  | true =>
    rw [hb] at c18 HF
    go_enter Tryd.func48, Tryd.ntmps48
    go_wp2
    first | (go_ret; exact ⟨ret_bool (unhide HF).symm, 0, rfl⟩) | (go_quiet (fail); go_wp2; go_ret; exact ⟨ret_bool (unhide HF).symm, _, rfl⟩)
  | false =>
    rw [hb] at c18 HF
    have HF2 : Hid (heldUp c s = decide (c.room ≤ n)) := hide (by rw [unhide HF]; simp)
    go_enter Tryd.func48, Tryd.ntmps48
    go_wp2
    first | (go_ret; exact ⟨ret_bool (unhide HF2).symm, 0, rfl⟩) | (go_quiet (fail); go_wp2; go_ret; exact ⟨ret_bool (unhide HF2).symm, _, rfl⟩)

set_option maxHeartbeats 1000000 in
set_option maxRecDepth 100000 in
theorem readiness_any (h : SAt w own i b c s cl ch q cm o ev qe ce oe) :
    Calls Tryd.prog 74 #[.pointer (some ⟨b, 0, none⟩)] w fun e w' => e = .returned (.int .i64 (ready c s : Nat)) ∧ ∃ k, w' = w.drewN k := by
  have k1 := isHeldUp_any h
  have hf : ready c s = if heldUp c s then 3 else 2 := rfl
  have HF := hide hf
  clear hf h
  generalize heldUp c s = x at k1 HF
  cases x with
  | true =>
    have HF2 : Hid ((ready c s : Nat) = 3) := hide (by rw [unhide HF]; rfl)
    go_enter Tryd.func74, Tryd.ntmps74
    go_wp2_with fail
    refine k1.mono ?_
    rintro e w1 ⟨rfl, k, rfl⟩
    go_wp2
    go_ret
    exact ⟨ret_int (by rw [unhide HF2]; rfl), k, rfl⟩
  | false =>
    have HF2 : Hid ((ready c s : Nat) = 2) := hide (by rw [unhide HF]; rfl)
    go_enter Tryd.func74, Tryd.ntmps74
    go_wp2_with fail
    refine k1.mono ?_
    rintro e w1 ⟨rfl, k, rfl⟩
    go_wp2
    go_ret
    exact ⟨ret_int (by rw [unhide HF2]; rfl), k, rfl⟩

set_option maxHeartbeats 1000000 in
set_option maxRecDepth 100000 in
theorem maySendNext_any (h : SAt w own i b c s cl ch q cm o ev qe ce oe) :
    Calls Tryd.prog 69 #[.pointer (some ⟨b, 0, none⟩)] w fun e w' => e = .returned (.bool (maySend c s)) ∧ ∃ k, w' = w.drewN k := by
  have c8 := h.c_vs
  have c16 := h.c_peer
  have c12 := h.c_q
  have c1 := h.c_win
  obtain ⟨p, cap, rfl, hc1, hc2⟩ := h.lq.slice
  have k1 := ahead_any h s.vs h.sok.vs
  have hr := h.sok.q20
  have hr2 := h.cok.win15
  have hf : maySend c s = (!s.peer && (decide (ahead c s s.vs < s.queue.length) && decide (ahead c s s.vs < c.win))) := rfl
  have HF := hide hf
  clear hf h
  unfold maxLen at hc2
  generalize s.queue.length = n at *
  generalize ahead c s s.vs = a at *
  cases hb : s.peer with
  | true =>
    rw [hb] at c16 HF
    go_enter Tryd.func69, Tryd.ntmps69
    go_wp2_with fail
    refine k1.mono ?_
    rintro e w1 ⟨rfl, k, rfl⟩
    go_wp2
    first | (go_ret; exact ⟨ret_bool (unhide HF).symm, k, rfl⟩) | (go_quiet (fail); go_wp2; go_ret; exact ⟨ret_bool (unhide HF).symm, _, World.drewN_drewN ..⟩)
  | false =>
    rw [hb] at c16 HF
    by_cases hlt : a < n
    · have HF2 : Hid (maySend c s = decide (a < c.win)) := hide (by rw [unhide HF]; simp [hlt])
      go_enter Tryd.func69, Tryd.ntmps69
      go_wp2_with fail
      refine k1.mono ?_
      rintro e w1 ⟨rfl, k, rfl⟩
      go_wp2
      first | (go_ret; exact ⟨ret_bool (unhide HF2).symm, k, rfl⟩) | (go_quiet (fail); go_wp2; go_ret; exact ⟨ret_bool (unhide HF2).symm, _, World.drewN_drewN ..⟩)
    · have HF2 : Hid (maySend c s = false) := hide (by rw [unhide HF]; simp [hlt])
      go_enter Tryd.func69, Tryd.ntmps69
      go_wp2_with fail
      refine k1.mono ?_
      rintro e w1 ⟨rfl, k, rfl⟩
      go_wp2
      first | (go_ret; exact ⟨ret_bool (unhide HF2).symm, k, rfl⟩) | (go_quiet (fail); go_wp2; go_ret; exact ⟨ret_bool (unhide HF2).symm, _, World.drewN_drewN ..⟩)

set_option maxHeartbeats 1000000 in
set_option maxRecDepth 100000 in
theorem isCommand_any (h : SAt w own i b c s cl ch q cm o ev qe ce oe) (f : Fr) (fq : Option Addr) (fc : Nat) :
    Calls Tryd.prog 61 #[.pointer (some ⟨b, 0, none⟩), frV f fq fc] w fun e w' => e = .returned (.bool (isCmd c f)) ∧ Below w.heap.size w w' := by
  have c5 := h.c_addr
  have hlt := h.lt
  have hf : isCmd c f = (f.a == (c.addr : Int)) := rfl
  have HF := hide hf
  clear hf h
  unfold frV
  go_enter Tryd.func61, Tryd.ntmps61
  go_wp2
  first | (go_ret; exact ⟨ret_bool (unhide HF).symm, (Below.refl _ w).alloc (Nat.le_refl _) _⟩) | (go_quiet (fail); go_wp2; go_ret; exact ⟨ret_bool (unhide HF).symm, below_drewN ((Below.refl _ w).alloc (Nat.le_refl _) _) _⟩)
end
end Go.Proofs.YtkalonhalhdlaaaDoor
