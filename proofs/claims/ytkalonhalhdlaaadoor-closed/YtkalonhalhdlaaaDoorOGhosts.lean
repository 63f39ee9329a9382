import Derived.Test.YtkalonhalhdlaaaDoorSBase
import Derived.Test.YtkalonhalhdlaaaDoorFRound
/-
  Numbers that do not go round, of a station that is connected: frames in plain words, and what each call sends.
-/
namespace Go.Proofs.YtkalonhalhdlaaaDoor
open Go

/-- A frame, its numbers not going round. -/
structure GF where
  cmd : Bool
  k : Nat
  p : Bool
  ns : Nat
  nr : Nat
  info : Msg
def GF.fr (c : Cfg) (g : GF) : Fr := ⟨if g.cmd then 4 - (c.addr : Int) else (c.addr : Int), (g.k : Int), g.p, ((g.ns % c.m : Nat) : Int), ((g.nr % c.m : Nat) : Int), g.info⟩
def GF.enc (c : Cfg) (g : GF) : Msg := (writeL c.m (g.fr c)).2
structure GF.ok (g : GF) : Prop where
  k1 : 1 ≤ g.k
  k4 : g.k ≤ 4
  cmd : g.k = 1 → g.cmd = true ∧ g.p = false
  info : g.info.length ≤ 32
  pol : g.k ≠ 1 → g.cmd = true → g.p = true
  rej : g.k = 4 → g.cmd = false ∧ g.p = false
  ns : g.k ≠ 1 → g.ns = 0 ∧ g.info = []

theorem GF.read {c : Cfg} (hc : c.ok) {g : GF} (hg : g.ok) : readL c.m (g.enc c) = (0, g.fr c) := by
  have hp := hc.pos
  have hm : isMod c.m = true := by rcases hc.m with e | e <;> rw [e] <;> rfl
  have hnr : g.nr % c.m < c.m := Nat.mod_lt _ hp
  have hns : g.ns % c.m < c.m := Nat.mod_lt _ hp
  have ha : isAddr (if g.cmd then 4 - (c.addr : Int) else (c.addr : Int)) = true := by
    rcases hc.addr with e | e <;> rw [e] <;> cases g.cmd <;> decide
  have hk1 := hg.k1
  have hk4 := hg.k4
  have hns0 : g.k ≠ 1 → g.ns % c.m = 0 := fun h => by rw [(hg.ns h).1]; exact Nat.zero_mod _
  have ok : NumOk c.m g.k (g.ns % c.m) (g.nr % c.m) := ⟨hc.m, hk1, by omega, fun _ => hns, hns0, fun _ => hnr, fun h => by omega⟩
  have hinf : infoF c.m g.k g.info.length = true := by
    unfold infoF
    by_cases e : g.k = 1
    · rw [if_pos (by omega)]
      have := hg.info
      exact decide_eq_true (by omega)
    · rw [if_neg (by omega), if_neg (by omega), (hg.ns e).2]
      rfl
  have hw : g.enc c = UInt8.ofNat ((if g.cmd then 4 - (c.addr : Int) else (c.addr : Int))).toNat :: (ctlL c.m g.k (g.ns % c.m) (g.nr % c.m) g.p ++ g.info) := by
    unfold GF.enc writeL GF.fr
    dsimp only
    have h1 : (isMod (c.m : Int) && isKd (g.k : Int) && numF c.m ((g.ns % c.m : Nat) : Int) (hasS (g.k : Int)) && numF c.m ((g.nr % c.m : Nat) : Int) (hasR (g.k : Int))) = true := by
      have e1 : isKd (g.k : Int) = true := by unfold isKd; simp; omega
      have e2 : hasR (g.k : Int) = true := by unfold hasR; simp; omega
      have e3 : numF c.m ((g.nr % c.m : Nat) : Int) true = true := by unfold numF; simp; omega
      have e4 : numF c.m ((g.ns % c.m : Nat) : Int) (hasS (g.k : Int)) = true := by
        unfold numF hasS
        by_cases e : g.k = 1
        · rw [e]; simp; omega
        · have : ¬ ((g.k : Int) = 1) := by omega
          have h0 := hns0 e
          simp [this]
          omega
      rw [hm, e1, e2, e3, e4]
      rfl
    rw [h1, if_neg (by simp), ha, if_neg (by simp), hinf, if_neg (by simp)]
    simp only [Int.toNat_natCast]
  rw [hw, read_of g.p g.info ok ha, hinf, if_neg (by simp)]
  rfl

section
variable {c : Cfg} {s : St}
theorem round_un {m A X : Nat} (hm : m = 8 ∨ m = 128) (h1 : A ≤ X) (h2 : X < A + m) : (X % m + m - A % m) % m = X - A := by
  rcases hm with rfl | rfl <;> omega
theorem ahead_un (hc : c.ok) {A X : Nat} (hva : s.va = A % c.m) (h1 : A ≤ X) (h2 : X < A + c.m) : ahead c s (X % c.m) = X - A := by
  unfold ahead
  rw [hva]
  exact round_un hc.m h1 h2
theorem follow_un (hc : c.ok) (X : Nat) : follow c (X % c.m) = (X + 1) % c.m := by
  unfold follow
  rcases hc.m with e | e <;> rw [e] <;> omega
theorem mod_near {m A B : Nat} (hm : m = 8 ∨ m = 128) (h : A % m = B % m) (h1 : A < B + m) (h2 : B < A + m) : A = B := by
  rcases hm with rfl | rfl <;> omega
end

/-- A connected station: A of its messages are acknowledged, those up to VS are sent, VM is as far as ever; RV have come to it. -/
structure Gs (c : Cfg) (s : St) (gv : List Msg) (A VS VM RV : Nat) : Prop where
  st : s.state = 2
  ev : s.events = []
  va : s.va = A % c.m
  vs : s.vs = VS % c.m
  vm : s.vm = VM % c.m
  vr : s.vr = RV % c.m
  avs : A ≤ VS
  vsm : VS ≤ VM
  vmn : VM ≤ gv.length
  win : VM ≤ A + c.win
  q : s.queue = gv.drop A
  g32 : ∀ m ∈ gv, m.length ≤ 32

section
variable {c : Cfg} {s s' : St} {gv : List Msg} {A VS VM RV : Nat}
/-- Other words of a station. -/
theorem Gs.of (h : Gs c s gv A VS VM RV) (h1 : s'.state = s.state) (h2 : s'.events = s.events) (h3 : s'.va = s.va) (h4 : s'.vs = s.vs) (h5 : s'.vm = s.vm) (h6 : s'.vr = s.vr) (h7 : s'.queue = s.queue) : Gs c s' gv A VS VM RV :=
  ⟨h1.trans h.st, h2.trans h.ev, h3.trans h.va, h4.trans h.vs, h5.trans h.vm, h6.trans h.vr, h.avs, h.vsm, h.vmn, h.win, h7.trans h.q, h.g32⟩

def gMsg (gv : List Msg) (VS RV : Nat) : GF := ⟨true, 1, false, VS, RV, gv.getD VS []⟩
theorem sendNext_g (hc : c.ok) (h : Gs c s gv A VS VM RV) (hm : maySend c s = true) : VS < gv.length ∧ VS < A + c.win ∧ Gs c (sendNext c s) gv A (VS + 1) (max VM (VS + 1)) RV ∧ (sendNext c s).out = s.out ++ [(gMsg gv VS RV).enc c] ∧ (gMsg gv VS RV).ok := by
  obtain ⟨h1, h2, h3⟩ := maySend_iff.1 hm
  have hw := hc.winm
  have ha : ahead c s s.vs = VS - A := by rw [h.vs]; exact ahead_un hc h.va h.avs (by have := h.vsm; have := h.win; omega)
  rw [ha] at h2 h3
  rw [h.q, List.length_drop] at h2
  have hl : VS < gv.length := by omega
  have hl2 : VS < A + c.win := by have := h.avs; omega
  have e1 : ∀ n, ahead c { putC c ⟨0, 1, false, s.vs, s.vr, s.queue.getD (ahead c s s.vs) []⟩ s with vs := follow c s.vs } n = ahead c s n := fun n => rfl
  have e2 : ahead c s (follow c s.vs) = VS + 1 - A := by rw [h.vs, follow_un hc]; exact ahead_un hc h.va (by have := h.avs; omega) (by omega)
  have e3 : ahead c s s.vm = VM - A := by rw [h.vm]; exact ahead_un hc h.va (by have := h.avs; have := h.vsm; omega) (by have := h.win; omega)
  have eq : s.queue.getD (ahead c s s.vs) [] = gv.getD VS [] := by
    rw [ha, h.q, List.getD_eq_getElem?_getD, List.getElem?_drop, List.getD_eq_getElem?_getD]
    congr 2
    have := h.avs
    omega
  have eo : (sendNext c s).out = s.out ++ [(gMsg gv VS RV).enc c] := by
    have : (sendNext c s).out = (putC c ⟨0, 1, false, s.vs, s.vr, s.queue.getD (ahead c s s.vs) []⟩ s).out := by unfold sendNext upVm; split <;> rfl
    rw [this, eq]
    unfold putC put GF.enc GF.fr gMsg
    simp [h.vs, h.vr]
  have hev : (sendNext c s).events = s.events := by unfold sendNext upVm; split <;> rfl
  have hvr : (sendNext c s).vr = s.vr := by unfold sendNext upVm; split <;> rfl
  have hvm : (sendNext c s).vm = (max VM (VS + 1)) % c.m := by
    unfold sendNext upVm
    rw [e1, e1]
    show (if ahead c s s.vm < ahead c s (follow c s.vs) then _ else _ : St).vm = _
    rw [e2, e3]
    have := h.avs
    have := h.vsm
    split
    · rw [show max VM (VS + 1) = VS + 1 by omega]
      show follow c s.vs = _
      rw [h.vs]
      exact follow_un hc VS
    · rw [show max VM (VS + 1) = VM by omega]
      exact h.vm
  refine ⟨hl, hl2, ⟨sendNext_state.trans h.st, hev.trans h.ev, sendNext_va.trans h.va, ?_, hvm, hvr.trans h.vr, by have := h.avs; omega, by omega, by have := h.vmn; omega, by have := h.win; omega, sendNext_queue.trans h.q, h.g32⟩, eo, ⟨by show 1 ≤ 1; omega, by show 1 ≤ 4; omega, fun _ => ⟨rfl, rfl⟩, ?_, fun e => absurd rfl e, fun e => absurd e (by show ¬ 1 = 4; omega), fun e => absurd rfl e⟩⟩
  · rw [sendNext_vs, h.vs]; exact follow_un hc VS
  · show (gv.getD VS []).length ≤ 32
    rw [List.getD_eq_getElem?_getD, List.getElem?_eq_getElem hl]
    exact h.g32 _ (List.getElem_mem hl)
end
end Go.Proofs.YtkalonhalhdlaaaDoor

/-
  A connected station whose numbers do not go round: each call a plain function; a station goes by it.
-/
namespace Go.Proofs.YtkalonhalhdlaaaDoor
open Go

structure Gn where
  gv : List Msg
  A : Nat
  VS : Nat
  VM : Nat
  RV : Nat
  came : List Msg
  polling : Bool
  peer : Bool
  rejected : Bool
  busy : Bool
  timer : Nat
  tries : Nat
def gHeld (c : Cfg) (n : Gn) : Bool := n.busy || decide (c.room ≤ n.came.length)
def gReady (c : Cfg) (n : Gn) : Nat := if gHeld c n then 3 else 2
def gAns (c : Cfg) (p : Bool) (n : Gn) : GF := ⟨false, gReady c n, p, 0, n.RV, []⟩
def run (gv : List Msg) (R a b : Nat) : List GF := (List.range' a (b - a)).map (fun x => gMsg gv x R)
def gTimer (c : Cfg) (n : Gn) : Gn := if n.A = n.VM ∧ n.peer = false then { n with timer := 0 } else if n.timer = 0 then { n with timer := c.tim, tries := 1 } else n
def gTo (c : Cfg) (n : Gn) : Nat := if n.peer then n.VS else min n.gv.length (n.A + c.win)
def gPump (c : Cfg) (n : Gn) : Gn × List GF := if n.polling then (n, []) else (gTimer c { n with VS := gTo c n, VM := max n.VM (gTo c n) }, run n.gv n.RV n.VS (gTo c n))
def gAck (nr : Nat) (n : Gn) : Gn := if nr = n.A then n else { n with A := nr, VS := max n.VS nr, timer := if n.polling then n.timer else 0 }
def gHearReady (c : Cfg) (g : GF) (n : Gn) : Gn × List GF :=
  let n1 := { n with peer := g.k == 3, VS := if g.k = 4 then n.A else n.VS }
  if g.p = false then (n1, []) else if g.cmd then (n1, [gAns c true n1]) else if n.polling then ({ n1 with polling := false, VS := n.A, timer := 0 }, []) else (n1, [])
def gHearMsg (c : Cfg) (g : GF) (n : Gn) : Gn × List GF :=
  if gHeld c n then (n, [gAns c false n])
  else if g.ns = n.RV then ({ n with RV := n.RV + 1, came := n.came ++ [g.info], rejected := false }, [gAns c false { n with RV := n.RV + 1, came := n.came ++ [g.info], rejected := false }])
  else if n.rejected = false then ({ n with rejected := true }, [⟨false, 4, false, 0, n.RV, []⟩])
  else (n, [])
def gHear1 (c : Cfg) (g : GF) (n : Gn) : Gn × List GF := if g.k = 1 then gHearMsg c g (gAck g.nr n) else gHearReady c g (gAck g.nr n)
def gHear (c : Cfg) (g : GF) (n : Gn) : Gn × List GF := ((gPump c (gHear1 c g n).1).1, (gHear1 c g n).2 ++ (gPump c (gHear1 c g n).1).2)
def gPoll (c : Cfg) (n : Gn) : GF := ⟨true, gReady c n, true, 0, n.RV, []⟩
def gTick (c : Cfg) (n : Gn) : Option (Gn × List GF) :=
  if n.timer = 0 then some (n, []) else if n.timer = 1 then (if n.tries = c.tri then none else some ({ n with timer := c.tim, tries := n.tries + 1, polling := true }, [gPoll c n])) else some ({ n with timer := n.timer - 1 }, [])
def gChange (c : Cfg) (was : Bool) (n : Gn) : List GF := if gHeld c n ≠ was then [gAns c false n] else []
def gBusy (c : Cfg) (on : Bool) (n : Gn) : Gn × List GF := ({ n with busy := on }, gChange c (gHeld c n) { n with busy := on })
def gTaken (c : Cfg) (n : Gn) : Gn × List GF := ({ n with came := [] }, gChange c (gHeld c n) { n with came := [] })
def gSend (c : Cfg) (m : Msg) (n : Gn) : Gn × List GF := if 20 ≤ n.gv.length - n.A then (n, []) else gPump c { n with gv := n.gv ++ [m] }

/-- A station that goes by n. -/
structure Rel (c : Cfg) (s : St) (n : Gn) : Prop where
  gs : Gs c s n.gv n.A n.VS n.VM n.RV
  came : s.came = n.came
  polling : s.polling = n.polling
  peer : s.peer = n.peer
  rejected : s.rejected = n.rejected
  busy : s.busy = n.busy
  timer : s.timer = n.timer
  tries : s.tries = n.tries
/-- s' goes by r's station; what r lists was sent. -/
def Goes (c : Cfg) (s s' : St) (r : Gn × List GF) : Prop := Rel c s' r.1 ∧ s'.out = s.out ++ r.2.map (GF.enc c)

section
variable {c : Cfg} {s s' : St} {n : Gn}
theorem Rel.held (h : Rel c s n) : heldUp c s = gHeld c n := by unfold heldUp gHeld; rw [h.busy, h.came]
theorem Rel.rdy (h : Rel c s n) : ready c s = gReady c n := by unfold ready gReady; rw [h.held]
theorem answer_r (h : Rel c s n) (p : Bool) : Goes c s (answer c p s) (n, [gAns c p n]) := by
  refine ⟨⟨h.gs.of rfl rfl rfl rfl rfl rfl rfl, h.came, h.polling, h.peer, h.rejected, h.busy, h.timer, h.tries⟩, ?_⟩
  unfold answer putR put GF.enc GF.fr gAns
  rw [h.rdy]
  simp [h.gs.vr]
theorem gReady_23 : gReady c n = 2 ∨ gReady c n = 3 := by unfold gReady; split <;> simp
theorem gAns_ok (p : Bool) : (gAns c p n).ok := by
  have h := gReady_23 (c := c) (n := n)
  have h1 : ¬ gReady c n = 1 := by omega
  have h4 : ¬ gReady c n = 4 := by omega
  exact ⟨by show 1 ≤ gReady c n; omega, by show gReady c n ≤ 4; omega, fun e => absurd e h1, by show (0 : Nat) ≤ 32; omega, fun _ e => absurd e (by show ¬ false = true; simp), fun e => absurd e h4, fun _ => ⟨rfl, rfl⟩⟩
theorem gPoll_ok : (gPoll c n).ok := by
  have h := gReady_23 (c := c) (n := n)
  have h1 : ¬ gReady c n = 1 := by omega
  have h4 : ¬ gReady c n = 4 := by omega
  exact ⟨by show 1 ≤ gReady c n; omega, by show gReady c n ≤ 4; omega, fun e => absurd e h1, by show (0 : Nat) ≤ 32; omega, fun _ _ => rfl, fun e => absurd e h4, fun _ => ⟨rfl, rfl⟩⟩

theorem run_nil (gv : List Msg) (R : Nat) {a b : Nat} (h : b ≤ a) : run gv R a b = [] := by
  unfold run
  rw [Nat.sub_eq_zero_of_le h]
  rfl
theorem run_cons (gv : List Msg) (R : Nat) {a b : Nat} (h : a < b) : run gv R a b = gMsg gv a R :: run gv R (a + 1) b := by
  unfold run
  rw [show b - a = (b - (a + 1)) + 1 by omega, List.range'_succ]
  rfl

structure SameR (s s' : St) : Prop where
  came : s'.came = s.came
  polling : s'.polling = s.polling
  peer : s'.peer = s.peer
  rejected : s'.rejected = s.rejected
  busy : s'.busy = s.busy
  timer : s'.timer = s.timer
  tries : s'.tries = s.tries
theorem sendNext_same : SameR s (sendNext c s) := by
  unfold sendNext upVm
  split <;> exact ⟨rfl, rfl, rfl, rfl, rfl, rfl, rfl⟩
theorem SameR.trans {t : St} (h : SameR s s') (k : SameR s' t) : SameR s t := ⟨k.came.trans h.came, k.polling.trans h.polling, k.peer.trans h.peer, k.rejected.trans h.rejected, k.busy.trans h.busy, k.timer.trans h.timer, k.tries.trans h.tries⟩

theorem pumpN_g (hc : c.ok) {gv : List Msg} {A RV : Nat} (k : Nat) : ∀ {s : St} {VS VM : Nat}, Gs c s gv A VS VM RV → s.peer = false → A + c.win ≤ k + VS →
    Gs c (pumpN c k s) gv A (min gv.length (A + c.win)) (max VM (min gv.length (A + c.win))) RV ∧ (pumpN c k s).out = s.out ++ (run gv RV VS (min gv.length (A + c.win))).map (GF.enc c) ∧ SameR s (pumpN c k s) := by
  induction k with
  | zero =>
    intro s VS VM h hp hk
    have h1 := h.avs
    have h2 := h.vsm
    have h3 := h.vmn
    have h4 := h.win
    have e : min gv.length (A + c.win) = VS := by omega
    have e2 : max VM VS = VM := by omega
    rw [e, e2, run_nil _ _ (Nat.le_refl _)]
    exact ⟨h, by simp [pumpN], ⟨rfl, rfl, rfl, rfl, rfl, rfl, rfl⟩⟩
  | succ k ih =>
    intro s VS VM h hp hk
    have h1 := h.avs
    have h2 := h.vsm
    have h3 := h.vmn
    have h4 := h.win
    unfold pumpN
    by_cases hm : maySend c s = true
    · rw [if_pos hm]
      obtain ⟨q1, q2, q3, q4, _⟩ := sendNext_g hc h hm
      obtain ⟨i1, i2, i3⟩ := ih q3 (sendNext_same.peer.trans hp) (by omega)
      refine ⟨?_, ?_, sendNext_same.trans i3⟩
      · rw [show max VM (min gv.length (A + c.win)) = max (max VM (VS + 1)) (min gv.length (A + c.win)) by omega]
        exact i1
      · rw [i2, q4, run_cons gv RV (show VS < min gv.length (A + c.win) by omega)]
        simp
    · rw [if_neg hm]
      have ha : ahead c s s.vs = VS - A := by rw [h.vs]; exact ahead_un hc h.va h.avs (by have := hc.winm; omega)
      have hm2 : ¬ (VS - A < gv.length - A ∧ VS - A < c.win) := by
        intro hh
        apply hm
        rw [maySend_iff, ha, h.q, List.length_drop]
        exact ⟨hp, hh⟩
      have e : min gv.length (A + c.win) = VS := by omega
      have e2 : max VM VS = VM := by omega
      rw [e, e2, run_nil _ _ (Nat.le_refl _)]
      exact ⟨h, by simp, ⟨rfl, rfl, rfl, rfl, rfl, rfl, rfl⟩⟩
theorem pumpN_peer (k : Nat) (hp : s.peer = true) : pumpN c k s = s := by
  cases k with
  | zero => rfl
  | succ k =>
    unfold pumpN
    rw [if_neg]
    rw [maySend_iff, hp]
    simp
theorem setTimer_r (hc : c.ok) (h : Rel c s n) : Rel c (setTimer c s) (gTimer c n) ∧ (setTimer c s).out = s.out := by
  have hw := hc.winm
  have h1 := h.gs.avs
  have h2 := h.gs.vsm
  have h4 := h.gs.win
  have e : (s.va = s.vm ∧ s.peer = false) ↔ (n.A = n.VM ∧ n.peer = false) := by
    rw [h.peer, h.gs.va, h.gs.vm]
    constructor
    · rintro ⟨e1, e2⟩
      exact ⟨mod_near hc.m e1 (by omega) (by omega), e2⟩
    · rintro ⟨e1, e2⟩
      exact ⟨by rw [e1], e2⟩
  unfold setTimer gTimer
  by_cases hh : n.A = n.VM ∧ n.peer = false
  · rw [if_pos hh, if_pos (e.2 hh)]
    exact ⟨⟨h.gs.of rfl rfl rfl rfl rfl rfl rfl, h.came, h.polling, h.peer, h.rejected, h.busy, rfl, h.tries⟩, rfl⟩
  · rw [if_neg hh, if_neg (fun x => hh (e.1 x)), h.timer]
    split
    · exact ⟨⟨h.gs.of rfl rfl rfl rfl rfl rfl rfl, h.came, h.polling, h.peer, h.rejected, h.busy, rfl, rfl⟩, rfl⟩
    · exact ⟨h, rfl⟩
theorem pump_r (hc : c.ok) (h : Rel c s n) : Goes c s (pump c s) (gPump c n) := by
  unfold pump gPump
  by_cases hp : n.polling = true
  · rw [if_pos hp, if_pos (h.polling.trans hp)]
    exact ⟨h, by simp⟩
  · rw [if_neg hp, if_neg (fun x => hp (h.polling.symm.trans x))]
    have hw15 := hc.win15
    have h1 := h.gs.avs
    have h2 := h.gs.vsm
    by_cases hq : n.peer = true
    · rw [pumpN_peer 16 (h.peer.trans hq)]
      have e : gTo c n = n.VS := by unfold gTo; rw [if_pos hq]
      rw [e, show max n.VM n.VS = n.VM by omega, run_nil _ _ (Nat.le_refl _)]
      obtain ⟨q1, q2⟩ := setTimer_r hc h
      exact ⟨q1, by rw [q2]; simp⟩
    · have e : gTo c n = min n.gv.length (n.A + c.win) := by unfold gTo; rw [if_neg hq]
      obtain ⟨i1, i2, i3⟩ := pumpN_g hc 16 h.gs (h.peer.trans (by simpa using hq)) (by omega)
      have hr : Rel c (pumpN c 16 s) { n with VS := gTo c n, VM := max n.VM (gTo c n) } := by
        rw [e]
        exact ⟨i1, i3.came.trans h.came, i3.polling.trans h.polling, i3.peer.trans h.peer, i3.rejected.trans h.rejected, i3.busy.trans h.busy, i3.timer.trans h.timer, i3.tries.trans h.tries⟩
      obtain ⟨q1, q2⟩ := setTimer_r hc hr
      exact ⟨q1, by rw [q2, i2, e]⟩

theorem ack_r (hc : c.ok) (h : Rel c s n) {nr : Nat} (h1 : n.A ≤ nr) (h2 : nr ≤ n.VM) : isGood c s (nr % c.m) = true ∧ Rel c (acknowledge c (nr % c.m) s) (gAck nr n) ∧ (acknowledge c (nr % c.m) s).out = s.out := by
  have hw := hc.winm
  have h3 := h.gs.avs
  have h4 := h.gs.vsm
  have h5 := h.gs.win
  have h6 := h.gs.vmn
  have e1 : ahead c s (nr % c.m) = nr - n.A := ahead_un hc h.gs.va h1 (by omega)
  have e2 : ahead c s s.vm = n.VM - n.A := by rw [h.gs.vm]; exact ahead_un hc h.gs.va (by omega) (by omega)
  have e3 : ahead c s s.vs = n.VS - n.A := by rw [h.gs.vs]; exact ahead_un hc h.gs.va (by omega) (by omega)
  refine ⟨by unfold isGood; rw [e1, e2]; exact decide_eq_true (by omega), ?_⟩
  unfold acknowledge gAck
  rw [e1, e3]
  by_cases hz : nr = n.A
  · rw [if_pos (by omega), if_pos hz]
    exact ⟨h, rfl⟩
  · rw [if_neg (by omega), if_neg hz]
    refine ⟨⟨⟨h.gs.st, h.gs.ev, rfl, ?_, h.gs.vm, h.gs.vr, ?_, ?_, h6, ?_, ?_, h.gs.g32⟩, h.came, h.polling, h.peer, h.rejected, h.busy, ?_, h.tries⟩, rfl⟩
    · show (if n.VS - n.A < nr - n.A then nr % c.m else s.vs) = (max n.VS nr) % c.m
      split
      · rw [show max n.VS nr = nr by omega]
      · rw [show max n.VS nr = n.VS by omega]; exact h.gs.vs
    · show nr ≤ max n.VS nr; omega
    · show max n.VS nr ≤ n.VM; omega
    · show n.VM ≤ nr + c.win; omega
    · show s.queue.drop (nr - n.A) = n.gv.drop nr
      rw [h.gs.q, List.drop_drop]
      congr 1
      omega
    · show (if s.polling then s.timer else 0) = if n.polling then n.timer else 0
      rw [h.polling, h.timer]

theorem isCmd_g {d : Cfg} (hd : d.ok) (ha : c.addr + d.addr = 4) (g : GF) : isCmd c (g.fr d) = g.cmd := by
  unfold isCmd GF.fr
  rcases hd.addr with e | e
  · have e2 : c.addr = 3 := by omega
    rw [e, e2]
    cases g.cmd <;> rfl
  · have e2 : c.addr = 1 := by omega
    rw [e, e2]
    cases g.cmd <;> rfl

theorem hearReady_r {d : Cfg} (hd : d.ok) (hm : d.m = c.m) (ha : c.addr + d.addr = 4) (h : Rel c s n) {g : GF} (hn : n.A = g.nr) : Goes c s (hearReady c (g.fr d) s) (gHearReady c g n) := by
  have h1 := h.gs.avs
  have h2 := h.gs.vsm
  have hnr : (g.fr d).nr.toNat = n.A % c.m := by show ((g.nr % d.m : Nat) : Int).toNat = _; rw [Int.toNat_natCast, hm, hn]
  have hk3 : ((g.fr d).k == 3) = (g.k == 3) := by show ((g.k : Int) == 3) = _; rw [Bool.eq_iff_iff]; simp; omega
  have hk4 : ((g.fr d).k = 4) ↔ g.k = 4 := by show ((g.k : Int) = 4) ↔ _; omega
  have hr : Rel c { s with peer := (g.fr d).k == 3, vs := if (g.fr d).k = 4 then (g.fr d).nr.toNat else s.vs } { n with peer := g.k == 3, VS := if g.k = 4 then n.A else n.VS } := by
    refine ⟨⟨h.gs.st, h.gs.ev, h.gs.va, ?_, h.gs.vm, h.gs.vr, ?_, ?_, h.gs.vmn, h.gs.win, h.gs.q, h.gs.g32⟩, h.came, h.polling, hk3, h.rejected, h.busy, h.timer, h.tries⟩
    · show (if (g.fr d).k = 4 then (g.fr d).nr.toNat else s.vs) = (if g.k = 4 then n.A else n.VS) % c.m
      by_cases e : g.k = 4
      · rw [if_pos (hk4.2 e), if_pos e, hnr]
      · rw [if_neg (fun x => e (hk4.1 x)), if_neg e]; exact h.gs.vs
    · show n.A ≤ if g.k = 4 then n.A else n.VS
      split <;> omega
    · show (if g.k = 4 then n.A else n.VS) ≤ n.VM
      split <;> omega
  unfold hearReady gHearReady
  dsimp only
  rw [isCmd_g hd ha]
  show Goes c s (if g.p = false then _ else _) _
  by_cases hp : g.p = false
  · rw [if_pos hp, if_pos hp]
    exact ⟨hr, by simp⟩
  · rw [if_neg hp, if_neg hp]
    by_cases hcm : g.cmd = true
    · rw [if_pos hcm, if_pos hcm]
      exact answer_r hr true
    · rw [if_neg hcm, if_neg hcm]
      by_cases hpo : n.polling = true
      · rw [if_pos hpo, if_pos (h.polling.trans hpo)]
        refine ⟨⟨⟨h.gs.st, h.gs.ev, h.gs.va, hnr, h.gs.vm, h.gs.vr, ?_, ?_, h.gs.vmn, h.gs.win, h.gs.q, h.gs.g32⟩, h.came, rfl, hk3, h.rejected, h.busy, rfl, h.tries⟩, by simp⟩
        · show n.A ≤ n.A; omega
        · show n.A ≤ n.VM; omega
      · rw [if_neg hpo, if_neg (fun x => hpo (h.polling.symm.trans x))]
        exact ⟨hr, by simp⟩

theorem hearMsg_r (hc : c.ok) {d : Cfg} (hm : d.m = c.m) (h : Rel c s n) {g : GF} (hg : g.ok) (hk : g.k = 1) (hns : g.ns < n.RV + c.m) (hrv : n.RV < g.ns + c.m) : Goes c s (hearMsg c (g.fr d) s) (gHearMsg c g n) := by
  have hp : g.p = false := (hg.cmd hk).2
  have e1 : (g.fr d).p = false := hp
  have e2 : ((g.fr d).ns = s.vr) ↔ g.ns = n.RV := by
    show (((g.ns % d.m : Nat) : Int) = (s.vr : Int)) ↔ _
    rw [h.gs.vr, hm]
    constructor
    · intro e
      exact mod_near hc.m (by omega) hns hrv
    · intro e; rw [e]
  unfold hearMsg gHearMsg
  rw [h.held, e1]
  by_cases hh : gHeld c n = true
  · rw [if_pos hh, if_pos hh]
    exact answer_r h false
  · rw [if_neg hh, if_neg hh]
    by_cases hz : g.ns = n.RV
    · rw [if_pos hz, if_pos (e2.2 hz)]
      have hr : Rel c { s with vr := follow c s.vr, came := s.came ++ [(g.fr d).info], rejected := false } { n with RV := n.RV + 1, came := n.came ++ [g.info], rejected := false } := by
        refine ⟨⟨h.gs.st, h.gs.ev, h.gs.va, h.gs.vs, h.gs.vm, ?_, h.gs.avs, h.gs.vsm, h.gs.vmn, h.gs.win, h.gs.q, h.gs.g32⟩, ?_, h.polling, h.peer, rfl, h.busy, h.timer, h.tries⟩
        · show follow c s.vr = (n.RV + 1) % c.m
          rw [h.gs.vr]; exact follow_un hc _
        · show s.came ++ [g.info] = n.came ++ [g.info]
          rw [h.came]
      exact answer_r hr false
    · rw [if_neg hz, if_neg (fun x => hz (e2.1 x)), h.rejected]
      by_cases hj : n.rejected = false
      · rw [if_pos hj, if_pos hj]
        refine ⟨⟨h.gs.of rfl rfl rfl rfl rfl rfl rfl, h.came, h.polling, h.peer, rfl, h.busy, h.timer, h.tries⟩, ?_⟩
        show (putR c ⟨0, 4, false, 0, s.vr, []⟩ { s with rejected := true }).out = _
        unfold putR put GF.enc GF.fr
        simp [h.gs.vr]
      · rw [if_neg hj, if_neg hj, if_neg (by simp)]
        exact ⟨h, by simp⟩

/-- Hear. -/
theorem hear_r (hc : c.ok) {d : Cfg} (hd : d.ok) (hm : d.m = c.m) (ha : c.addr + d.addr = 4) (h : Rel c s n) {g : GF} (hg : g.ok) (h1 : n.A ≤ g.nr) (h2 : g.nr ≤ n.VM) (hns : g.k = 1 → g.ns < n.RV + c.m ∧ n.RV < g.ns + c.m) :
    (hearS c (g.enc d) s).1 = 0 ∧ Goes c s (hearS c (g.enc d) s).2 (gHear c g n) := by
  have hrd := GF.read hd hg
  rw [hm] at hrd
  have hk1 := hg.k1
  have hk4 := hg.k4
  have hcmd := isCmd_g (c := c) hd ha g
  have hfk : (g.fr d).k = (g.k : Int) := rfl
  have hheed : heeds c (g.fr d) = true := by
    unfold heeds
    rw [hcmd, hfk]
    by_cases e : g.k = 1
    · rw [if_pos (by omega)]; exact (hg.cmd e).1
    · rw [if_neg (by omega), if_neg (by omega)]
  have hfr : hearFrame c (g.fr d) s = hearNum c (g.fr d) s := by
    unfold hearFrame
    rw [h.gs.st]
    simp only [show ¬ (2 = 0) by omega, show ¬ (2 = 1) by omega, if_false, if_true]
    unfold hearUp
    rw [hfk, if_neg (by omega), if_neg (by omega), if_neg (by omega), if_neg (by omega), if_pos (by omega)]
  unfold hearS
  rw [hrd]
  simp only [ne_eq, not_true_eq_false, if_false]
  refine ⟨trivial, ?_⟩
  rw [hheed, if_pos rfl, hfr]
  obtain ⟨a1, a2, a3⟩ := ack_r hc h h1 h2
  have hnr : (g.fr d).nr.toNat = g.nr % c.m := by show ((g.nr % d.m : Nat) : Int).toNat = _; rw [Int.toNat_natCast, hm]
  have hA : (gAck g.nr n).A = g.nr := by unfold gAck; split <;> first | rfl | (symm; assumption)
  have hRV : (gAck g.nr n).RV = n.RV := by unfold gAck; split <;> rfl
  unfold hearNum
  rw [hnr, a1, if_neg (by simp), hfk]
  unfold gHear gHear1
  by_cases e : g.k = 1
  · rw [if_pos (by omega), if_pos e]
    have q := hearMsg_r hc hm a2 hg e (by rw [hRV]; exact (hns e).1) (by rw [hRV]; exact (hns e).2)
    have p := pump_r hc q.1
    exact ⟨p.1, by rw [p.2, q.2, a3]; simp⟩
  · rw [if_neg (by omega), if_neg e]
    have q := hearReady_r hd hm ha a2 hA
    have p := pump_r hc q.1
    exact ⟨p.1, by rw [p.2, q.2, a3]; simp⟩

theorem change_r (h : Rel c s n) (was : Bool) : Goes c s (change c was s) (n, gChange c was n) := by
  unfold change gChange
  rw [h.held, h.gs.st]
  by_cases e : gHeld c n ≠ was
  · rw [if_pos ⟨rfl, e⟩, if_pos e]
    exact answer_r h false
  · rw [if_neg (fun x => e x.2), if_neg e]
    exact ⟨h, by simp⟩
theorem busy_r (h : Rel c s n) (on : Bool) : Goes c s (busyS c on s) (gBusy c on n) := by
  have hr : Rel c { s with busy := on } { n with busy := on } := ⟨h.gs.of rfl rfl rfl rfl rfl rfl rfl, h.came, h.polling, h.peer, h.rejected, rfl, h.timer, h.tries⟩
  unfold busyS gBusy
  rw [h.held]
  exact change_r hr _
theorem taken_r (h : Rel c s n) : Goes c s (takenS c s) (gTaken c n) := by
  have hr : Rel c { s with came := [] } { n with came := [] } := ⟨h.gs.of rfl rfl rfl rfl rfl rfl rfl, rfl, h.polling, h.peer, h.rejected, h.busy, h.timer, h.tries⟩
  unfold takenS gTaken
  rw [h.held]
  exact change_r hr _
theorem send_r (hc : c.ok) (h : Rel c s n) {m : Msg} (hm : m.length ≤ 32) : ((sendS c m s).1 = if 20 ≤ n.gv.length - n.A then 7 else 0) ∧ Goes c s (sendS c m s).2 (gSend c m n) := by
  have h1 := h.gs.avs
  have h2 := h.gs.vsm
  have h3 := h.gs.vmn
  unfold sendS gSend
  rw [if_neg (fun x => x h.gs.st), if_neg (by omega), h.gs.q, List.length_drop]
  by_cases e : 20 ≤ n.gv.length - n.A
  · rw [if_pos e, if_pos e, if_pos e]
    exact ⟨rfl, h, by simp⟩
  · rw [if_neg e, if_neg e, if_neg e]
    have hr : Rel c { s with queue := n.gv.drop n.A ++ [m] } { n with gv := n.gv ++ [m] } := by
      refine ⟨⟨h.gs.st, h.gs.ev, h.gs.va, h.gs.vs, h.gs.vm, h.gs.vr, h1, h2, ?_, h.gs.win, ?_, ?_⟩, h.came, h.polling, h.peer, h.rejected, h.busy, h.timer, h.tries⟩
      · show n.VM ≤ (n.gv ++ [m]).length
        rw [List.length_append]; omega
      · show n.gv.drop n.A ++ [m] = (n.gv ++ [m]).drop n.A
        rw [List.drop_append_of_le_length (by omega)]
      · intro x hx
        rcases List.mem_append.1 hx with hx | hx
        · exact h.gs.g32 x hx
        · simp at hx; rw [hx]; exact hm
    exact ⟨rfl, pump_r hc hr⟩
theorem tick_r (h : Rel c s n) : (tickS c s).events ≠ [] ∨ ∃ r, gTick c n = some r ∧ Goes c s (tickS c s) r := by
  unfold tickS gTick
  rw [h.timer]
  by_cases h0 : n.timer = 0
  · rw [if_pos h0, if_pos h0]
    exact .inr ⟨_, rfl, h, by simp⟩
  · rw [if_neg h0, if_neg h0]
    by_cases h1 : n.timer = 1
    · rw [if_pos h1, if_pos h1]
      unfold runOut
      dsimp only
      by_cases ht : n.tries = c.tri
      · rw [if_pos (h.tries.trans ht)]
        left
        unfold goDown tell
        simp
      · have h2 := h.gs.st
        rw [if_neg (fun x => ht (h.tries.symm.trans x)), if_neg ht, if_neg (by omega), if_neg (by omega), if_pos h2]
        refine .inr ⟨_, rfl, ⟨h.gs.of rfl rfl rfl rfl rfl rfl rfl, h.came, rfl, h.peer, h.rejected, h.busy, rfl, by show s.tries + 1 = n.tries + 1; rw [h.tries]⟩, ?_⟩
        have hrd : ready c { s with timer := 0 } = gReady c n := h.rdy
        unfold putC put GF.enc GF.fr gPoll
        rw [hrd]
        simp [h.gs.vr]
    · rw [if_neg h1, if_neg h1]
      exact .inr ⟨_, rfl, ⟨h.gs.of rfl rfl rfl rfl rfl rfl rfl, h.came, h.polling, h.peer, h.rejected, h.busy, rfl, h.tries⟩, by simp⟩
end
end Go.Proofs.YtkalonhalhdlaaaDoor

/-
  Two connected stations and the frames on their way, numbers not going round: what always holds.
-/
namespace Go.Proofs.YtkalonhalhdlaaaDoor
open Go

structure Gn.ok (c : Cfg) (n : Gn) : Prop where
  avs : n.A ≤ n.VS
  vsm : n.VS ≤ n.VM
  vmn : n.VM ≤ n.gv.length
  win : n.VM ≤ n.A + c.win
  g32 : ∀ m ∈ n.gv, m.length ≤ 32
theorem Rel.ok {c : Cfg} {s : St} {n : Gn} (h : Rel c s n) : n.ok c := ⟨h.gs.avs, h.gs.vsm, h.gs.vmn, h.gs.win, h.gs.g32⟩

/-- A call: what it leaves, and what it sends. -/
structure Step (c : Cfg) (n n' : Gn) (fs : List GF) : Prop where
  gv : ∃ x, n'.gv = n.gv ++ x
  A : n.A ≤ n'.A
  VM : n.VM ≤ n'.VM
  RV : n.RV ≤ n'.RV
  ok : n'.ok c
  fs : ∀ g ∈ fs, g.ok ∧ g.nr = n'.RV ∧ (g.k = 1 → n'.A ≤ g.ns ∧ g.ns < n'.VM ∧ n'.gv[g.ns]? = some g.info)

section
variable {c : Cfg} {n n' : Gn} {fs : List GF}
theorem Gn.ok.of (h : n.ok c) (h1 : n'.A = n.A) (h2 : n'.VS = n.VS) (h3 : n'.VM = n.VM) (h4 : n'.gv = n.gv) : n'.ok c := ⟨by rw [h1, h2]; exact h.avs, by rw [h2, h3]; exact h.vsm, by rw [h3, h4]; exact h.vmn, by rw [h1, h3]; exact h.win, by rw [h4]; exact h.g32⟩
theorem Step.refl (h : n.ok c) : Step c n n [] := ⟨⟨[], by simp⟩, Nat.le_refl _, Nat.le_refl _, Nat.le_refl _, h, fun g hg => by simp at hg⟩
/-- Frames without a message. -/
theorem Step.same (h : n.ok c) (h1 : n'.A = n.A) (h2 : n'.VS = n.VS) (h3 : n'.VM = n.VM) (h4 : n'.gv = n.gv) (h5 : n'.RV = n.RV) (hf : ∀ g ∈ fs, g.ok ∧ g.nr = n'.RV ∧ g.k ≠ 1) : Step c n n' fs :=
  ⟨⟨[], by simp [h4]⟩, by omega, by omega, by omega, h.of h1 h2 h3 h4, fun g hg => ⟨(hf g hg).1, (hf g hg).2.1, fun e => absurd e (hf g hg).2.2⟩⟩
theorem Step.trans {n'' : Gn} {fs' : List GF} (h : Step c n n' fs) (k : Step c n' n'' fs') (hR : n''.RV = n'.RV) (hA : n''.A = n'.A) : Step c n n'' (fs ++ fs') := by
  refine ⟨?_, Nat.le_trans h.A k.A, Nat.le_trans h.VM k.VM, Nat.le_trans h.RV k.RV, k.ok, fun g hg => ?_⟩
  · obtain ⟨x, hx⟩ := h.gv
    obtain ⟨y, hy⟩ := k.gv
    exact ⟨x ++ y, by rw [hy, hx, List.append_assoc]⟩
  · rcases List.mem_append.1 hg with hg | hg
    · obtain ⟨q1, q2, q3⟩ := h.fs g hg
      refine ⟨q1, by rw [q2, hR], fun e => ?_⟩
      obtain ⟨r1, r2, r3⟩ := q3 e
      refine ⟨by rw [hA]; exact r1, Nat.lt_of_lt_of_le r2 k.VM, ?_⟩
      obtain ⟨y, hy⟩ := k.gv
      rw [hy, List.getElem?_append_left (Nat.lt_of_lt_of_le r2 h.ok.vmn)]
      exact r3
    · exact k.fs g hg
theorem gMsg_ok (h : n.ok c) {x : Nat} (hx : x < n.gv.length) (R : Nat) : (gMsg n.gv x R).ok := by
  refine ⟨by show 1 ≤ 1; omega, by show 1 ≤ 4; omega, fun _ => ⟨rfl, rfl⟩, ?_, fun e => absurd rfl e, fun e => absurd e (by show ¬ 1 = 4; omega), fun e => absurd rfl e⟩
  show (n.gv.getD x []).length ≤ 32
  rw [List.getD_eq_getElem?_getD, List.getElem?_eq_getElem hx]
  exact h.g32 _ (List.getElem_mem hx)
theorem mem_run {gv : List Msg} {R a b : Nat} {g : GF} (hg : g ∈ run gv R a b) : ∃ x, a ≤ x ∧ x < b ∧ g = gMsg gv x R := by
  unfold run at hg
  rw [List.mem_map] at hg
  obtain ⟨x, hx, rfl⟩ := hg
  rw [List.mem_range'_1] at hx
  exact ⟨x, hx.1, by omega, rfl⟩
theorem gTimer_A : (gTimer c n).A = n.A := by
  unfold gTimer
  split
  · rfl
  · split <;> rfl
theorem gTimer_VS : (gTimer c n).VS = n.VS := by
  unfold gTimer
  split
  · rfl
  · split <;> rfl
theorem gTimer_VM : (gTimer c n).VM = n.VM := by
  unfold gTimer
  split
  · rfl
  · split <;> rfl
theorem gTimer_gv : (gTimer c n).gv = n.gv := by
  unfold gTimer
  split
  · rfl
  · split <;> rfl
theorem gTimer_RV : (gTimer c n).RV = n.RV := by
  unfold gTimer
  split
  · rfl
  · split <;> rfl
theorem gTimer_came : (gTimer c n).came = n.came := by
  unfold gTimer
  split
  · rfl
  · split <;> rfl
theorem gTimer_polling : (gTimer c n).polling = n.polling := by
  unfold gTimer
  split
  · rfl
  · split <;> rfl
theorem gTimer_peer : (gTimer c n).peer = n.peer := by
  unfold gTimer
  split
  · rfl
  · split <;> rfl
theorem gTimer_rejected : (gTimer c n).rejected = n.rejected := by
  unfold gTimer
  split
  · rfl
  · split <;> rfl
theorem gTimer_busy : (gTimer c n).busy = n.busy := by
  unfold gTimer
  split
  · rfl
  · split <;> rfl
theorem gTo_le (h : n.ok c) : n.VS ≤ gTo c n ∧ gTo c n ≤ n.gv.length ∧ gTo c n ≤ n.A + c.win := by
  have h1 := h.avs
  have h2 := h.vsm
  have h3 := h.vmn
  have h4 := h.win
  unfold gTo
  split <;> omega
theorem gPump_keeps : (gPump c n).1.A = n.A ∧ (gPump c n).1.RV = n.RV ∧ (gPump c n).1.came = n.came ∧ (gPump c n).1.gv = n.gv := by
  unfold gPump
  split
  · exact ⟨rfl, rfl, rfl, rfl⟩
  · exact ⟨gTimer_A, gTimer_RV, gTimer_came, gTimer_gv⟩
theorem gPump_step (h : n.ok c) : Step c n (gPump c n).1 (gPump c n).2 := by
  have h1 := h.avs
  have h2 := h.vsm
  have h3 := h.vmn
  have h4 := h.win
  obtain ⟨t1, t2, t3⟩ := gTo_le h
  obtain ⟨k1, k2, _, k4⟩ := gPump_keeps (c := c) (n := n)
  unfold gPump at *
  split
  · exact Step.refl h
  · rename_i hp
    rw [if_neg hp] at k1 k2 k4
    have kvm : (gTimer c { n with VS := gTo c n, VM := max n.VM (gTo c n) }).VM = max n.VM (gTo c n) := gTimer_VM
    have kvs : (gTimer c { n with VS := gTo c n, VM := max n.VM (gTo c n) }).VS = gTo c n := gTimer_VS
    refine ⟨⟨[], by rw [k4]; simp⟩, by rw [k1]; exact Nat.le_refl _, by rw [kvm]; omega, by rw [k2]; exact Nat.le_refl _, ⟨?_, ?_, ?_, ?_, ?_⟩, fun g hg => ?_⟩
    · rw [k1, kvs]; omega
    · rw [kvs, kvm]; omega
    · rw [kvm, k4]; omega
    · rw [kvm, k1]; omega
    · rw [k4]; exact h.g32
    · obtain ⟨x, x1, x2, rfl⟩ := mem_run hg
      refine ⟨gMsg_ok h (by omega) _, by rw [k2]; rfl, fun _ => ⟨by rw [k1]; show n.A ≤ x; omega, by rw [kvm]; show x < _; omega, ?_⟩⟩
      rw [k4]
      show n.gv[x]? = some (n.gv.getD x [])
      rw [List.getD_eq_getElem?_getD, List.getElem?_eq_getElem (show x < n.gv.length by omega)]
      rfl
theorem gAck_step (h : n.ok c) {nr : Nat} (h1 : n.A ≤ nr) (h2 : nr ≤ n.VM) : Step c n (gAck nr n) [] ∧ (gAck nr n).A = nr ∧ (gAck nr n).RV = n.RV ∧ (gAck nr n).came = n.came ∧ (gAck nr n).gv = n.gv ∧ (gAck nr n).VM = n.VM := by
  have q1 := h.avs
  have q2 := h.vsm
  have q3 := h.vmn
  have q4 := h.win
  unfold gAck
  split
  · rename_i e
    exact ⟨Step.refl h, e.symm, rfl, rfl, rfl, rfl⟩
  · exact ⟨⟨⟨[], by simp⟩, h1, Nat.le_refl _, Nat.le_refl _, ⟨by show nr ≤ max n.VS nr; omega, by show max n.VS nr ≤ n.VM; omega, q3, by show n.VM ≤ nr + c.win; omega, h.g32⟩, fun g hg => by simp at hg⟩, rfl, rfl, rfl, rfl, rfl⟩
theorem gAns_fs {p : Bool} {R : Nat} (hR : n.RV = R) : ∀ g ∈ [gAns c p n], g.ok ∧ g.nr = R ∧ g.k ≠ 1 := by
  intro g hg
  simp at hg
  subst hg
  refine ⟨gAns_ok p, hR, ?_⟩
  show ¬ gReady c n = 1
  have := gReady_23 (c := c) (n := n)
  omega
theorem gHearReady_step (h : n.ok c) (g : GF) : Step c n (gHearReady c g n).1 (gHearReady c g n).2 ∧ (gHearReady c g n).1.A = n.A ∧ (gHearReady c g n).1.RV = n.RV ∧ (gHearReady c g n).1.came = n.came := by
  have q1 := h.avs
  have q2 := h.vsm
  have ho : ∀ (v : Nat) (pe po : Bool) (tm : Nat), n.A ≤ v → v ≤ n.VM → ({ n with VS := v, peer := pe, polling := po, timer := tm } : Gn).ok c := fun v pe po tm h1 h2 => ⟨h1, h2, h.vmn, h.win, h.g32⟩
  have hv : n.A ≤ (if g.k = 4 then n.A else n.VS) ∧ (if g.k = 4 then n.A else n.VS) ≤ n.VM := by split <;> omega
  have st : ∀ (v : Nat) (pe po : Bool) (tm : Nat) (fs : List GF), n.A ≤ v → v ≤ n.VM → (∀ g ∈ fs, g.ok ∧ g.nr = n.RV ∧ g.k ≠ 1) → Step c n { n with VS := v, peer := pe, polling := po, timer := tm } fs := fun v pe po tm fs h1 h2 hf => ⟨⟨[], by simp⟩, Nat.le_refl _, Nat.le_refl _, Nat.le_refl _, ho v pe po tm h1 h2, fun g hg => ⟨(hf g hg).1, (hf g hg).2.1, fun e => absurd e (hf g hg).2.2⟩⟩
  unfold gHearReady
  dsimp only
  split
  · exact ⟨st _ _ n.polling n.timer [] hv.1 hv.2 (fun g hg => by simp at hg), rfl, rfl, rfl⟩
  · split
    · exact ⟨st _ _ n.polling n.timer _ hv.1 hv.2 (gAns_fs rfl), rfl, rfl, rfl⟩
    · split
      · exact ⟨st n.A _ false 0 [] (Nat.le_refl _) (by omega) (fun g hg => by simp at hg), rfl, rfl, rfl⟩
      · exact ⟨st _ _ n.polling n.timer [] hv.1 hv.2 (fun g hg => by simp at hg), rfl, rfl, rfl⟩
theorem gHearMsg_step (h : n.ok c) (g : GF) : Step c n (gHearMsg c g n).1 (gHearMsg c g n).2 ∧ (gHearMsg c g n).1.A = n.A ∧ (((gHearMsg c g n).1.RV = n.RV ∧ (gHearMsg c g n).1.came = n.came) ∨ (g.ns = n.RV ∧ (gHearMsg c g n).1.RV = n.RV + 1 ∧ (gHearMsg c g n).1.came = n.came ++ [g.info])) := by
  unfold gHearMsg
  split
  · exact ⟨Step.same h rfl rfl rfl rfl rfl (gAns_fs rfl), rfl, .inl ⟨rfl, rfl⟩⟩
  · split
    · rename_i e
      refine ⟨⟨⟨[], by simp⟩, Nat.le_refl _, Nat.le_refl _, Nat.le_succ _, h.of rfl rfl rfl rfl, fun g hg => ?_⟩, rfl, .inr ⟨e, rfl, rfl⟩⟩
      obtain ⟨a1, a2, a3⟩ := gAns_fs rfl g hg
      exact ⟨a1, a2, fun e => absurd e a3⟩
    · split
      · refine ⟨Step.same h rfl rfl rfl rfl rfl (fun g hg => ?_), rfl, .inl ⟨rfl, rfl⟩⟩
        simp at hg
        subst hg
        exact ⟨⟨by show 1 ≤ 4; omega, by show 4 ≤ 4; omega, fun e => absurd e (by show ¬ 4 = 1; omega), by show (0 : Nat) ≤ 32; omega, fun _ e => absurd e (by show ¬ false = true; simp), fun _ => ⟨rfl, rfl⟩, fun _ => ⟨rfl, rfl⟩⟩, rfl, by show ¬ 4 = 1; omega⟩
      · exact ⟨Step.refl h, rfl, .inl ⟨rfl, rfl⟩⟩
theorem gHear1_step (h : n.ok c) {g : GF} (h1 : n.A ≤ g.nr) (h2 : g.nr ≤ n.VM) : Step c n (gHear1 c g n).1 (gHear1 c g n).2 ∧ (gHear1 c g n).1.A = g.nr ∧ (((gHear1 c g n).1.RV = n.RV ∧ (gHear1 c g n).1.came = n.came) ∨ (g.k = 1 ∧ g.ns = n.RV ∧ (gHear1 c g n).1.RV = n.RV + 1 ∧ (gHear1 c g n).1.came = n.came ++ [g.info])) := by
  obtain ⟨a1, a2, a3, a4, a5, a6⟩ := gAck_step h h1 h2
  have hc : ∀ {n' : Gn} {fs : List GF}, Step c (gAck g.nr n) n' fs → Step c n n' fs := by
    intro n' fs k
    refine ⟨?_, Nat.le_trans a1.A k.A, Nat.le_trans a1.VM k.VM, Nat.le_trans a1.RV k.RV, k.ok, k.fs⟩
    obtain ⟨x, hx⟩ := k.gv
    exact ⟨x, by rw [hx, a5]⟩
  unfold gHear1
  split
  · rename_i e
    obtain ⟨b1, b2, b3⟩ := gHearMsg_step a1.ok g
    rw [a3, a4] at b3
    exact ⟨hc b1, b2.trans a2, b3.imp id (fun x => ⟨e, x⟩)⟩
  · obtain ⟨b1, b2, b3, b4⟩ := gHearReady_step a1.ok g
    exact ⟨hc b1, b2.trans a2, .inl ⟨b3.trans a3, b4.trans a4⟩⟩
theorem gHear_step (h : n.ok c) {g : GF} (h1 : n.A ≤ g.nr) (h2 : g.nr ≤ n.VM) : Step c n (gHear c g n).1 (gHear c g n).2 ∧ (gHear c g n).1.A = g.nr ∧ (((gHear c g n).1.RV = n.RV ∧ (gHear c g n).1.came = n.came) ∨ (g.k = 1 ∧ g.ns = n.RV ∧ (gHear c g n).1.RV = n.RV + 1 ∧ (gHear c g n).1.came = n.came ++ [g.info])) := by
  obtain ⟨a1, a2, a3⟩ := gHear1_step h h1 h2
  obtain ⟨k1, k2, k3, k4⟩ := gPump_keeps (c := c) (n := (gHear1 c g n).1)
  refine ⟨a1.trans (gPump_step a1.ok) k2 k1, k1.trans a2, ?_⟩
  show ((gPump c (gHear1 c g n).1).1.RV = n.RV ∧ (gPump c (gHear1 c g n).1).1.came = n.came) ∨ (g.k = 1 ∧ g.ns = n.RV ∧ (gPump c (gHear1 c g n).1).1.RV = n.RV + 1 ∧ (gPump c (gHear1 c g n).1).1.came = n.came ++ [g.info])
  rw [k2, k3]
  exact a3
theorem gTick_step (h : n.ok c) {r : Gn × List GF} (hr : gTick c n = some r) : Step c n r.1 r.2 ∧ r.1.A = n.A ∧ r.1.RV = n.RV ∧ r.1.came = n.came := by
  unfold gTick at hr
  split at hr
  · cases hr
    exact ⟨Step.refl h, rfl, rfl, rfl⟩
  · split at hr
    · split at hr
      · cases hr
      · cases hr
        refine ⟨Step.same h rfl rfl rfl rfl rfl (fun g hg => ?_), rfl, rfl, rfl⟩
        simp at hg
        subst hg
        have := gReady_23 (c := c) (n := n)
        exact ⟨gPoll_ok, rfl, by show ¬ gReady c n = 1; omega⟩
    · cases hr
      exact ⟨Step.same h rfl rfl rfl rfl rfl (fun g hg => by simp at hg), rfl, rfl, rfl⟩
theorem gChange_fs {was : Bool} {R : Nat} (hR : n.RV = R) : ∀ g ∈ gChange c was n, g.ok ∧ g.nr = R ∧ g.k ≠ 1 := by
  unfold gChange
  split
  · exact gAns_fs hR
  · intro g hg
    simp at hg
theorem gBusy_step (h : n.ok c) (on : Bool) : Step c n (gBusy c on n).1 (gBusy c on n).2 := Step.same h rfl rfl rfl rfl rfl (gChange_fs rfl)
theorem gTaken_step (h : n.ok c) : Step c n (gTaken c n).1 (gTaken c n).2 := Step.same h rfl rfl rfl rfl rfl (gChange_fs rfl)
theorem gSend_step (h : n.ok c) {m : Msg} (hm : m.length ≤ 32) : Step c n (gSend c m n).1 (gSend c m n).2 ∧ (gSend c m n).1.A = n.A ∧ (gSend c m n).1.RV = n.RV ∧ (gSend c m n).1.came = n.came ∧ (gSend c m n).1.gv = if 20 ≤ n.gv.length - n.A then n.gv else n.gv ++ [m] := by
  unfold gSend
  by_cases e : 20 ≤ n.gv.length - n.A
  · rw [if_pos e, if_pos e]
    exact ⟨Step.refl h, rfl, rfl, rfl, rfl⟩
  · rw [if_neg e, if_neg e]
    have ho : ({ n with gv := n.gv ++ [m] } : Gn).ok c := by
      refine ⟨h.avs, h.vsm, ?_, h.win, fun x hx => ?_⟩
      · have := h.vmn
        show n.VM ≤ (n.gv ++ [m]).length
        rw [List.length_append]; omega
      · rcases List.mem_append.1 hx with hx | hx
        · exact h.g32 x hx
        · simp at hx; rw [hx]; exact hm
    obtain ⟨k1, k2, k3, k4⟩ := gPump_keeps (c := c) (n := { n with gv := n.gv ++ [m] })
    have st := gPump_step ho
    refine ⟨⟨?_, st.A, st.VM, st.RV, st.ok, st.fs⟩, k1, k2, k3, k4⟩
    exact ⟨[m], k4⟩
end

/-- Frames on their way from a to b; t: how many of a's messages b has handed over. -/
structure Way2 (c : Cfg) (a b : Gn) (t : Nat) (L : List GF) : Prop where
  fok : ∀ g ∈ L, g.ok
  isn : ∀ g ∈ L, g.k = 1 → g.ns < a.VM ∧ a.gv[g.ns]? = some g.info ∧ b.RV ≤ g.ns + c.win
  pw : L.Pairwise (fun p q => (p.k = 1 → q.k = 1 → p.ns < q.ns + c.win) ∧ p.nr ≤ q.nr)
  nr : ∀ g ∈ L, b.A ≤ g.nr ∧ g.nr ≤ a.RV
  ar : a.A ≤ b.RV
  rm : b.RV ≤ a.VM
  tr : t ≤ b.RV
  came : b.came = (a.gv.take b.RV).drop t

section
variable {c : Cfg} {a b a' b' : Gn} {t : Nat} {L fs : List GF} {g : GF}
theorem Way2.sent (h : Way2 c a b t L) (st : Step c a a' fs) (ha : a.ok c) (hA : a'.A ≤ b.RV) (hb : b.A ≤ a.RV) : Way2 c a' b t (L ++ fs) := by
  have hw := st.ok.win
  obtain ⟨x, hx⟩ := st.gv
  refine ⟨fun g hg => ?_, fun g hg hk => ?_, ?_, fun g hg => ?_, hA, Nat.le_trans h.rm st.VM, h.tr, ?_⟩
  · rcases List.mem_append.1 hg with hg | hg
    · exact h.fok g hg
    · exact (st.fs g hg).1
  · rcases List.mem_append.1 hg with hg | hg
    · obtain ⟨q1, q2, q3⟩ := h.isn g hg hk
      refine ⟨Nat.lt_of_lt_of_le q1 st.VM, ?_, q3⟩
      rw [hx, List.getElem?_append_left (Nat.lt_of_lt_of_le q1 ha.vmn)]
      exact q2
    · obtain ⟨q1, q2, q3⟩ := (st.fs g hg).2.2 hk
      have := h.rm
      have := st.VM
      exact ⟨q2, q3, by omega⟩
  · rw [List.pairwise_append]
    refine ⟨h.pw, List.pairwise_of_forall_mem_list (fun p hp q hq => ?_), fun p hp q hq => ?_⟩
    · obtain ⟨_, p2, p3⟩ := st.fs p hp
      obtain ⟨_, q2, q3⟩ := st.fs q hq
      refine ⟨fun e1 e2 => ?_, by omega⟩
      have := (p3 e1).2.1
      have := (q3 e2).1
      omega
    · obtain ⟨_, q2, q3⟩ := st.fs q hq
      refine ⟨fun e1 e2 => ?_, ?_⟩
      · have := (h.isn p hp e1).1
        have := (q3 e2).1
        have := st.VM
        omega
      · have := (h.nr p hp).2
        have := st.RV
        omega
  · rcases List.mem_append.1 hg with hg | hg
    · exact ⟨(h.nr g hg).1, Nat.le_trans (h.nr g hg).2 st.RV⟩
    · have := (st.fs g hg).2.1
      have := st.RV
      exact ⟨by omega, by omega⟩
  · rw [h.came, hx, List.take_append_of_le_length (Nat.le_trans h.rm ha.vmn)]
theorem Way2.lost (h : Way2 c a b t (g :: L)) : Way2 c a b t L :=
  ⟨fun x hx => h.fok x (List.mem_cons_of_mem _ hx), fun x hx => h.isn x (List.mem_cons_of_mem _ hx), (List.pairwise_cons.1 h.pw).2, fun x hx => h.nr x (List.mem_cons_of_mem _ hx), h.ar, h.rm, h.tr, h.came⟩
theorem Way2.heard (h : Way2 c a b t (g :: L)) (ha : a.ok c) (hA : b'.A = g.nr) (hR : (b'.RV = b.RV ∧ b'.came = b.came) ∨ (g.k = 1 ∧ g.ns = b.RV ∧ b'.RV = b.RV + 1 ∧ b'.came = b.came ++ [g.info])) : Way2 c a b' t L := by
  have h' := h.lost
  obtain ⟨p1, _⟩ := List.pairwise_cons.1 h.pw
  have hnr : ∀ x ∈ L, b'.A ≤ x.nr ∧ x.nr ≤ a.RV := fun x hx => ⟨by rw [hA]; exact (p1 x hx).2, (h'.nr x hx).2⟩
  rcases hR with ⟨e1, e2⟩ | ⟨e1, e2, e3, e4⟩
  · refine ⟨h'.fok, ?_, h'.pw, hnr, ?_, ?_, ?_, ?_⟩
    · rw [e1]; exact h'.isn
    · rw [e1]; exact h'.ar
    · rw [e1]; exact h'.rm
    · rw [e1]; exact h'.tr
    · rw [e1, e2]; exact h'.came
  · obtain ⟨i1, i2, _⟩ := h.isn g (List.mem_cons_self ..) e1
    have h1 := h.ar
    have h2 := h.tr
    have h3 := ha.vmn
    refine ⟨h'.fok, fun x hx hk => ?_, h'.pw, hnr, by omega, by omega, by omega, ?_⟩
    · obtain ⟨q1, q2, _⟩ := h'.isn x hx hk
      have := (p1 x hx).1 e1 hk
      exact ⟨q1, q2, by omega⟩
    · rw [e2] at i2
      have hl : b.RV < a.gv.length := by omega
      rw [e4, e3, h.came, List.take_add_one, i2, List.drop_append_of_le_length (by rw [List.length_take]; omega)]
      rfl
theorem Way2.other (h : Way2 c a b t L) (h1 : b'.A = b.A) (h2 : b'.RV = b.RV) (h3 : b'.came = b.came) : Way2 c a b' t L :=
  ⟨h.fok, by rw [h2]; exact h.isn, h.pw, by rw [h1]; exact h.nr, by rw [h2]; exact h.ar, by rw [h2]; exact h.rm, by rw [h2]; exact h.tr, by rw [h2, h3]; exact h.came⟩
theorem Way2.taken (h : Way2 c a b t L) (h1 : b'.A = b.A) (h2 : b'.RV = b.RV) (h3 : b'.came = []) : Way2 c a b' b.RV L := by
  refine ⟨h.fok, by rw [h2]; exact h.isn, h.pw, by rw [h1]; exact h.nr, by rw [h2]; exact h.ar, by rw [h2]; exact h.rm, by omega, ?_⟩
  rw [h2, h3]
  exact (List.drop_eq_nil_of_le (by rw [List.length_take]; omega)).symm
end
end Go.Proofs.YtkalonhalhdlaaaDoor
