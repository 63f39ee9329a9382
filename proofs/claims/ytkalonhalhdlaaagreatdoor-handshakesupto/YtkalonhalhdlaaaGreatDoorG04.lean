import Derived.Test.YtkalonhalhdlaaaGreatDoorG03
import Derived.Test.YtkalonhalhdlaaaGreatDoorG01
import Derived.Laws.OwnMore
import Derived.Deep.LoopGhost
import Derived.Shelf.SlicesE.Delete
import Derived.Shelf.Bytes.SlClone
import Derived.Conc.LoneSelect
import Derived.Shelf.Strings.BuilderK
import Derived.Shelf.Bytes.SlEqualAll
import Derived.Test.YtkalonhalhdlaaaGreatDoorProg
import Derived.Laws.BitsAllLaws
/-
  What the methods of a station do that pump, and see to the timer.
-/
namespace Go.Proofs.YtkalonhalhdlaaaGreatDoor
open Go.RowKit
section
variable {w W : World} {own : Nat → Nat} {i b : Nat} {c : Cfg} {s : St} {cl : Bool} {ch : Nat} {q cm o ev : Value} {qe ce oe : List Value}
theorem Did.of {s' : St} {e : Ending} {w' : World} (hb : Below w.heap.size w W) (h : Did i b c s' cl own W e w') : Did i b c s' cl own w e w' := ⟨h.1, h.2.choose, h.2.choose_spec.1, h.2.choose_spec.2.of hb⟩
/-- A station whose block alone was written. -/
theorem SAt.did (h : SAt w own i b c s cl ch q cm o ev qe ce oe) {s' : St} {w' : World} (hk : Keeps (· = b) w w') (hh : HeadAt w' b c s' ch q cm o ev) (e1 : s'.queue = s.queue) (e2 : s'.came = s.came) (e3 : s'.out = s.out) (e4 : s'.events = s.events) (hok : s'.fit c) : Did i b c s' cl own w (.returned (.tuple #[])) w' :=
  ⟨rfl, own, ⟨_, _, _, _, _, _, _, _, h.wrote hk hh e1 e2 e3 e4 hok⟩, h.upd hk⟩
theorem SAt.idle (h : SAt w own i b c s cl ch q cm o ev qe ce oe) : Did i b c s cl own w (.returned (.tuple #[])) w := ⟨rfl, own, ⟨_, _, _, _, _, _, _, _, h⟩, Upd.refl _ _ _⟩
theorem SAt.idleB (h : SAt w own i b c s cl ch q cm o ev qe ce oe) {w' : World} (hb : Below w.heap.size w w') : Did i b c s cl own w (.returned (.tuple #[])) w' := ⟨rfl, own, ⟨_, _, _, _, _, _, _, _, h.later hb⟩, (Upd.refl i own w').of hb⟩
set_option maxHeartbeats 4000000 in
set_option maxRecDepth 100000 in
theorem endPolling_any (h : SAt w own i b c s cl ch q cm o ev qe ce oe) (nr : Nat) (hnr : nr < c.m) :
    Calls Tryz.prog 173 #[.pointer (some ⟨b, 0, none⟩), .int .i64 nr] w fun e w' => Did i b c ({ s with polling := false, vs := nr, timer := 0 }) cl own w e w' := by
  have c15 := h.c_polling
  have c8 := h.c_vs
  have c13 := h.c_timer
  have fz := h.fz
  have hlt := h.lt
  have H := hide h
  clear h
  go_enter Tryz.func173, Tryz.ntmps173
  go_wp2
  go_end0
  have h := unhide H
  exact h.did (((((Keeps.refl _ w).setB 15 (.bool false)).setB 8 (.int .i64 nr)).setB 13 (.int .i64 (0 : Nat)))) ((((h.hd.polling false).vs nr).timer 0).as { s with polling := false, vs := nr, timer := 0 } rfl) rfl rfl rfl rfl ⟨h.sok.state, hnr, h.sok.va, h.sok.vr, h.sok.vm, h.sok.q20, h.sok.q32, Nat.zero_le _, h.sok.tries, h.sok.came⟩
set_option maxHeartbeats 4000000 in
set_option maxRecDepth 100000 in
theorem setTimer_any (h : SAt w own i b c s cl ch q cm o ev qe ce oe) :
    Calls Tryz.prog 132 #[.pointer (some ⟨b, 0, none⟩)] w fun e w' => Did i b c (setTimer c s) cl own w e w' := by
  have c9 := h.c_va
  have c11 := h.c_vm
  have c16 := h.c_peer
  have c13 := h.c_timer
  have c14 := h.c_tries
  have c2 := h.c_tim
  have fz := h.fz
  have hlt := h.lt
  have f1 : St.fit c { s with timer := 0 } := ⟨h.sok.state, h.sok.vs, h.sok.va, h.sok.vr, h.sok.vm, h.sok.q20, h.sok.q32, Nat.zero_le _, h.sok.tries, h.sok.came⟩
  have f2 : St.fit c { s with timer := c.tim, tries := 1 } := ⟨h.sok.state, h.sok.vs, h.sok.va, h.sok.vr, h.sok.vm, h.sok.q20, h.sok.q32, Nat.le_refl _, h.cok.tri1, h.sok.came⟩
  have F1 := hide f1
  have F2 := hide f2
  have H := hide h
  clear h f1 f2
  have done0 : ∀ n, Did i b c { s with timer := 0 } cl own w (.returned (.tuple #[])) ((w.drewN n).setCell ⟨b, 13, none⟩ (.int .i64 (0 : Nat))) := fun n => by
    have h := (unhide H).drewN n
    exact Did.of (below_drewN (Below.refl _ w) n) (h.did ((Keeps.refl _ _).setB 13 (.int .i64 (0 : Nat))) ((h.hd.timer 0).as { s with timer := 0 } rfl) rfl rfl rfl rfl (unhide F1))
  have done1 : ∀ n, Did i b c { s with timer := c.tim, tries := 1 } cl own w (.returned (.tuple #[])) (((w.drewN n).setCell ⟨b, 13, none⟩ (.int .i64 c.tim)).setCell ⟨b, 14, none⟩ (.int .i64 (1 : Nat))) := fun n => by
    have h := (unhide H).drewN n
    exact Did.of (below_drewN (Below.refl _ w) n) (h.did (((Keeps.refl _ _).setB 13 (.int .i64 c.tim)).setB 14 (.int .i64 (1 : Nat))) (((h.hd.timer c.tim).tries 1).as { s with timer := c.tim, tries := 1 } rfl) rfl rfl rfl rfl (unhide F2))
  have done2 : ∀ n, Did i b c s cl own w (.returned (.tuple #[])) (w.drewN n) := fun n => (unhide H).idleB (below_drewN (Below.refl _ w) n)
  have D0 := hide done0
  have D1 := hide done1
  have D2 := hide done2
  clear done0 done1 done2 F1 F2 H
  unfold setTimer
  by_cases hv : s.va = s.vm
  · have t1 : ((s.va : Int) == (s.vm : Int)) = true := by simp [hv]
    by_cases hp : s.peer = false
    · rw [if_pos ⟨hv, hp⟩]
      rw [hp] at c16
      clear hp hv
      go_enter Tryz.func132, Tryz.ntmps132
      go_wp2
      go_quiet (fail)
      go_wp2
      go_end0
      exact unhide D0 _
    · rw [if_neg (fun hh => hp hh.2)]
      rw [eq_true_of_ne_false hp] at c16
      clear hp hv
      by_cases h0 : s.timer = 0
      · rw [if_pos h0]
        have t2 : ((s.timer : Int) == 0) = true := by simp [h0]
        clear h0
        go_enter Tryz.func132, Tryz.ntmps132
        go_wp2
        go_quiet (fail)
        go_wp2
        go_end0
        exact unhide D1 _
      · rw [if_neg h0]
        have t2 : ((s.timer : Int) == 0) = false := by simp [h0]
        clear h0
        go_enter Tryz.func132, Tryz.ntmps132
        go_wp2
        go_quiet (fail)
        go_wp2
        go_end0
        exact unhide D2 _
  · have t1 : ((s.va : Int) == (s.vm : Int)) = false := by simp; omega
    rw [if_neg (by simp [hv])]
    clear hv
    by_cases h0 : s.timer = 0
    · rw [if_pos h0]
      have t2 : ((s.timer : Int) == 0) = true := by simp [h0]
      clear h0
      go_enter Tryz.func132, Tryz.ntmps132
      go_wp2
      go_quiet (fail)
      go_wp2
      go_end0
      exact unhide D1 _
    · rw [if_neg h0]
      have t2 : ((s.timer : Int) == 0) = false := by simp [h0]
      clear h0
      go_enter Tryz.func132, Tryz.ntmps132
      go_wp2
      go_quiet (fail)
      go_wp2
      go_end0
      exact unhide D2 _
end
end Go.Proofs.YtkalonhalhdlaaaGreatDoor

/-
  What one call of sendNext does.
-/
namespace Go.Proofs.YtkalonhalhdlaaaGreatDoor
open Go.RowKit
section
variable {w W : World} {own : Nat → Nat} {i b : Nat} {c : Cfg} {s : St} {cl : Bool} {ch : Nat} {q cm o ev : Value} {qe ce oe : List Value}
/-- One of a list's lists. -/
theorem Lst.at {w : World} {own : Nat → Nat} {t : Nat} {v : Value} {ents : List Value} {l : List Msg} (h : Lst w own t v ents l) (k : Nat) (hk : k < l.length) : ∃ g cap p pc, v = .slice (some ⟨g, 0, none⟩) l.length cap ∧ w.cell? ⟨g, k, none⟩ = some (.slice p (l.getD k []).length pc) ∧ SrcIs w p (l.getD k []) ∧ l.length ≤ cap ∧ cap ≤ maxLen := by
  have hl := h.len
  obtain ⟨p0, cap, hv, h1, h2⟩ := h.slice
  rcases h.row.2 with ⟨_, h0⟩ | ⟨g, cap', cur, hv', _⟩
  · omega
  · have hr := h.row
    rw [hv'] at hr
    have hc := hr.cellAt k (by omega)
    have hx : ents[k]? = some ents[k] := List.getElem?_eq_getElem (by omega)
    have hm : l[k]? = some l[k] := List.getElem?_eq_getElem hk
    have hb := h.each k _ _ hx hm
    obtain ⟨p, pc, hp⟩ := row_slice hb.1
    have e : l.getD k [] = l[k] := by simp [List.getD, hm]
    rw [hv] at hv'
    simp only [Value.slice.injEq] at hv'
    obtain ⟨rfl, _, rfl⟩ := hv'
    refine ⟨g, cap, p, pc, hv, ?_, ?_, h1, h2⟩
    · rw [hc, hx, hp, e]
    · rw [e]
      have hb1 := hb.1
      rw [hp] at hb1
      exact own_src hb1 rfl
set_option maxHeartbeats 4000000 in
set_option maxRecDepth 100000 in
theorem sendNext_any (h : SAt w own i b c s cl ch q cm o ev qe ce oe) (hm : ahead c s s.vs < s.queue.length) (hl : s.out.length ≤ 2199023255552) :
    Calls Tryz.prog 131 #[.pointer (some ⟨b, 0, none⟩)] w fun e w' => Did i b c (sendNext c s) cl own w e w' := by
  obtain ⟨g, cap, p, pc, rfl, hcell, hsrc, hq1, hq2⟩ := h.lq.at _ hm
  have c8 := h.c_vs
  have c10 := h.c_vr
  have c12 := h.c_q
  have hlt := h.lt
  have k1 := fun n => ahead_any (h.drewN n) s.vs h.sok.vs
  have hk := fun V (hV : Below w.heap.size w V) => sendCommand_any (h.later hV) ⟨0, 1, false, s.vs, s.vr, s.queue.getD (ahead c s s.vs) []⟩ p pc (hsrc.below hV (Nat.le_refl _)) hl
  unfold frV at hk
  dsimp only at hk
  have hq20 := h.sok.q20
  have hsok := h.sok
  have hcok := h.cok
  have HS := hide hk
  have HSOK := hide hsok
  have HCOK := hide hcok
  generalize hmsg : s.queue.getD (ahead c s s.vs) [] = msg at hcell HS
  have HMSG := hide hmsg
  clear hk h hsrc hmsg hsok hcok
  unfold maxLen at hq2
  generalize hk0 : ahead c s s.vs = k at k1 hm hcell
  have HK0 := hide hk0
  clear hk0
  go_enter Tryz.func131, Tryz.ntmps131
  go_wp2_with fail
  go_quiet (first | (go_at_call 152; exact Calls.quiet_of (k1 _)))
  go_wp2_with fail
  go_region_held3 (fun w' => w'.cell? ⟨b, 8, none⟩ = some (.int .i64 s.vs) ∧ w'.cell? ⟨b, 10, none⟩ = some (.int .i64 s.vr)) (first | go_keep | exact ⟨h1.c_vs, h1.c_vr⟩) (first | (go_at_call 129; refine (unhide HS _ ?_).mono ?_; (first | exact below_drewN (Below.refl _ w) _ | exact (below_drewN (Below.refl _ w) _).drew); rintro e w1 ⟨rfl, own1, ⟨ch1, q1, cm1, o1, ev1, qe1, ce1, oe1, h1⟩, u1⟩))
  have HU := hide (Upd.of (w := w) (below_drewN (Below.refl _ w) _) u1)
  have d8 := h1.c_vs
  have d11 := h1.c_vm
  have fz := h1.fz
  have hlt1 := h1.lt
  have k2 := following_any h1 s.vs (unhide HSOK).vs
  have H1 := hide h1
  have K2 := hide k2
  clear h1 u1 HS k1 k2 c8 c10 c12 hcell
  dsimp only [putC, put] at d8 d11
  go_wp2_with fail
  refine (unhide K2).mono ?_
  rintro e w2 ⟨rfl, n2, rfl⟩
  clear K2
  have h1 := (unhide H1).drewN n2
  have fok := unhide HSOK
  have hfl := follow_lt (unhide HCOK) s.vs
  have hK : Keeps (· = b) (w1.drewN n2) _ := (Keeps.refl _ (w1.drewN n2)).setB 8 (.int .i64 (follow c s.vs : Nat))
  have h2 := h1.wrote hK ((h1.hd.vs (follow c s.vs)).as { putC c ⟨0, 1, false, s.vs, s.vr, msg⟩ s with vs := follow c s.vs } rfl) rfl rfl rfl rfl ⟨fok.state, hfl, fok.va, fok.vr, fok.vm, fok.q20, fok.q32, fok.timer, fok.tries, fok.came⟩
  have hU := ((unhide HU).trans (Upd.of (below_drewN (Below.refl _ w1) n2) (h1.upd hK)))
  have hpost : sendNext c s = upVm c { putC c ⟨0, 1, false, s.vs, s.vr, msg⟩ s with vs := follow c s.vs } := by
    unfold sendNext
    rw [unhide HMSG]
  have d8' := h2.c_vs
  have d11' := h2.c_vm
  have fz2 := h2.fz
  have hlt2 := h2.lt
  have k3 := fun j => ahead_any (h2.drewN j) s.vm fok.vm
  have k4 := fun j => ahead_any (h2.drewN j) (follow c s.vs) hfl
  have H2 := hide h2
  have HU2 := hide hU
  generalize ht : ({ putC c ⟨0, 1, false, s.vs, s.vr, msg⟩ s with vs := follow c s.vs } : St) = t at k3 k4 H2 hpost
  have hup : upVm c t = if ahead c t s.vm < ahead c t (follow c s.vs) then { t with vm := follow c s.vs } else t := by rw [← ht]; rfl
  have htq : t.fit c := (unhide H2).sok
  have HT := hide htq
  have HUP := hide (hpost.trans hup)
  dsimp only [putC, put] at d8' d11'
  clear ht hup htq h2 hU hpost h1 hK fok H1 HU HMSG HK0 hm hq20 hq1 hq2 HCOK
  generalize hx : ahead c t s.vm = x at k3 HUP
  generalize hy : ahead c t (follow c s.vs) = y at k4 HUP
  clear hx hy
  generalize hfo : follow c s.vs = fo at *
  clear hfo
  by_cases hxy : x < y
  · have HP : Hid (sendNext c s = { t with vm := fo }) := hide (by rw [unhide HUP, if_pos hxy])
    clear HUP
    go_wp2_with fail
    go_quiet (first | (go_at_call_of 152 ((s.vm : Int)); exact Calls.quiet_of (k3 _)) | (go_at_call_of 152 ((fo : Int)); exact Calls.quiet_of (k4 _)))
    clear k3 k4
    go_wp2
    go_end0
    rw [unhide HP]
    have h2 := (unhide H2).drewN nq
    have hd := Did.of (below_drewN (Below.refl _ _) nq) (h2.did (s' := { t with vm := fo }) ((Keeps.refl _ _).setB 11 (.int .i64 (fo : Nat))) (h2.hd.vm fo) rfl rfl rfl rfl ⟨h2.sok.state, h2.sok.vs, h2.sok.va, h2.sok.vr, hfl, h2.sok.q20, h2.sok.q32, h2.sok.timer, h2.sok.tries, h2.sok.came⟩)
    obtain ⟨_, own3, h3, u3⟩ := hd
    exact ⟨rfl, own3, h3, (unhide HU2).trans u3⟩
  · have HP : Hid (sendNext c s = t) := hide (by rw [unhide HUP, if_neg hxy])
    clear HUP
    go_wp2_with fail
    go_quiet (first | (go_at_call_of 152 ((s.vm : Int)); exact Calls.quiet_of (k3 _)) | (go_at_call_of 152 ((fo : Int)); exact Calls.quiet_of (k4 _)))
    clear k3 k4
    go_wp2
    go_end0
    rw [unhide HP]
    exact ⟨rfl, own1, ⟨_, _, _, _, _, _, _, _, (unhide H2).drewN nq⟩, (unhide HU2).trans (Upd.of (below_drewN (Below.refl _ _) nq) (Upd.refl _ _ _))⟩
end
end Go.Proofs.YtkalonhalhdlaaaGreatDoor

/-
  What one call of pump does.
-/
namespace Go.Proofs.YtkalonhalhdlaaaGreatDoor
open Go.RowKit
section
variable {w W : World} {own : Nat → Nat} {i b : Nat} {c : Cfg} {s : St} {cl : Bool} {ch : Nat} {q cm o ev : Value} {qe ce oe : List Value}
theorem sendNext_ahead' (hc : c.ok) (h : St.fit c s) (hm : maySend c s = true) : ahead c (sendNext c s) (sendNext c s).vs = ahead c s s.vs + 1 := by
  obtain ⟨_, _, h3⟩ := maySend_iff.1 hm
  rw [sendNext_vs]
  show (_ + c.m - (sendNext c s).va) % c.m = _
  rw [sendNext_va]
  exact ahead_follow hc h.vs h.va (by have := hc.winm; omega)
theorem sendNext_out : (sendNext c s).out.length = s.out.length + 1 := by
  unfold sendNext upVm
  split <;> simp [putC, put]
/-- Amid the pumping: so many rounds at most are to come. -/
def PumpInv (i b : Nat) (c : Cfg) (s : St) (cl : Bool) (own : Nat → Nat) (w : World) (k : Nat) (wr : World) : Prop :=
  ∃ own' t, Stn wr own' i b c t cl ∧ Upd i own own' w wr ∧ pumpN c 16 s = pumpN c k t ∧ c.win < k + ahead c t t.vs ∧ t.out.length + k ≤ s.out.length + 16
theorem PumpInv.start (h : SAt w own i b c s cl ch q cm o ev qe ce oe) : PumpInv i b c s cl own w 16 w :=
  ⟨own, s, ⟨_, _, _, _, _, _, _, _, h⟩, Upd.refl _ _ _, rfl, by have := h.cok.win15; omega, by omega⟩
set_option maxHeartbeats 4000000 in
set_option maxRecDepth 100000 in
theorem pump_any (h : SAt w own i b c s cl ch q cm o ev qe ce oe) (hl : s.out.length + 16 ≤ 2199023255552) :
    Calls Tryz.prog 99 #[.pointer (some ⟨b, 0, none⟩)] w fun e w' => Did i b c (pump c s) cl own w e w' := by
  have c15 := h.c_polling
  have hlt := h.lt
  by_cases hp : s.polling = true
  · have HP : Hid (pump c s = s) := hide (by unfold pump; rw [if_pos hp])
    rw [hp] at c15
    have H := hide h
    clear h hp
    go_enter Tryz.func99, Tryz.ntmps99
    go_wp2
    refine bodyPost_ret (results_none rfl _ _ _) rfl ?_
    rw [unhide HP]
    exact (unhide H).idle
  · have hp' : s.polling = false := eq_false_of_ne_true hp
    have HP : Hid (pump c s = setTimer c (pumpN c 16 s)) := hide (by unfold pump; rw [if_neg hp])
    rw [hp'] at c15
    have HI := hide (PumpInv.start h)
    clear h hp hp'
    go_enter Tryz.func99, Tryz.ntmps99
    go_wp2
    go_loopg [] 16 (fun k wr => PumpInv i b c s cl own w k wr)
    case atStart => exact unhide HI
    case round =>
      obtain ⟨own', t, ⟨ch1, q1, cm1, o1, ev1, qe1, ce1, oe1, h1⟩, u1, e1, hw, ho⟩ := hrel
      have k1 := maySendNext_any h1
      have E1 := hide e1
      have U1 := hide u1
      have H1 := hide h1
      clear e1 u1 h1 HI
      by_cases hm : maySend c t = true
      · rw [hm] at k1
        have hm' := hide hm
        clear hm
        go_wp2_with fail
        refine k1.mono ?_
        rintro e w2 ⟨rfl, n2, rfl⟩
        clear k1
        have h2 := (unhide H1).drewN n2
        have k2 := sendNext_any h2 (maySend_iff.1 (unhide hm')).2.1 (by omega)
        have K2 := hide k2
        clear k2 h2
        go_wp2_with fail
        refine (unhide K2).mono ?_
        rintro e w3 ⟨rfl, own3, h3, u3⟩
        have HR : Hid (PumpInv i b c s cl own w (gk - 1) w3) := by
          have h1 := unhide H1
          have hmm := unhide hm'
          have ha := sendNext_ahead' h1.cok h1.sok hmm
          have hlt := (maySend_iff.1 hmm).2.2
          have hso := sendNext_out (c := c) (s := t)
          refine ⟨own3, sendNext c t, h3, (unhide U1).trans (Upd.of (below_drewN (Below.refl _ _) _) u3), ?_, by omega, by omega⟩
          rw [unhide E1]
          obtain ⟨k', rfl⟩ : ∃ k', gk = k' + 1 := ⟨gk - 1, by omega⟩
          rw [pumpN, if_pos hmm]
          rfl
        have hgk : 0 < gk := by have := (maySend_iff.1 (unhide hm')).2.2; omega
        clear h3 u3 K2 H1 U1 E1 hm'
        go_wp2
        go_roundg (gk - 1)
        case measure => omega
        case rel => exact unhide HR
      · have hm0 : maySend c t = false := eq_false_of_ne_true hm
        rw [hm0] at k1
        have E2 : Hid (pumpN c 16 s = t) := hide (by
          rw [unhide E1]
          cases gk with
          | zero => rfl
          | succ k => rw [pumpN, if_neg hm])
        clear hm hm0
        go_wp2_with fail
        refine k1.mono ?_
        rintro e w2 ⟨rfl, n2, rfl⟩
        clear k1
        have K3 := hide (setTimer_any ((unhide H1).drewN n2))
        go_wp2_with fail
        refine (unhide K3).mono ?_
        rintro e w3 ⟨rfl, own3, h3, u3⟩
        have HR := hide (And.intro h3 ((unhide U1).trans (Upd.of (below_drewN (Below.refl _ _) _) u3)))
        clear h3 u3 K3 H1 U1
        go_wp2
        go_end0
        rw [unhide HP, unhide E2]
        exact ⟨rfl, own3, (unhide HR).1, (unhide HR).2⟩
end
end Go.Proofs.YtkalonhalhdlaaaGreatDoor

/-
  slices.Delete at a list of lists of bytes; bytes.Clone: the library's contracts at this program's numbers.
-/
namespace Go.Proofs
open Go.Shelf
def Tryz.laysSlE45_ren : Go.Shelf.Ren := ⟨fun | 45 => 172 | n => n, fun | 0 => 0 | 3 => 3 | 4 => 4 | 22 => 38 | 23 => 28 | n => n, fun | n => n⟩
theorem Tryz.laysSlE45 : Go.Proofs.SlLaysE.n45 Tryz.prog Tryz.laysSlE45_ren := {
  mixed := by kernel_rfl
  f45 := ⟨ "slices.Delete[[][]byte,[]byte]", by decide, Tryz.func172.trans (congrArg some (by kernel_rfl))⟩
  t0 := Tryz.underlying0
  a0 := Tryz.isAgg0
  z0 := Tryz.sizeOf0
  v0 := Tryz.zeroValue0
  t3 := Tryz.underlying3
  a3 := Tryz.isAgg3
  z3 := Tryz.sizeOf3
  v3 := Tryz.zeroValue3
  t4 := Tryz.underlying4
  a4 := Tryz.isAgg4
  z4 := Tryz.sizeOf4
  v4 := Tryz.zeroValue4
  t22 := Tryz.underlying38
  a22 := Tryz.isAgg38
  z22 := Tryz.sizeOf38
  v22 := Tryz.zeroValue38
  a23 := Tryz.isAgg28
  z23 := Tryz.sizeOf28 }
end Go.Proofs
namespace Go.Proofs.YtkalonhalhdlaaaGreatDoor
open Go.RowKit
/-- A slice's three words. -/
def encS (x : Option Addr × Nat × Nat) : Value := .slice x.1 x.2.1 x.2.2
theorem encS_list : ∀ ents : List Value, (∀ x ∈ ents, ∃ p n c, x = .slice p n c) → ∃ ds : List (Option Addr × Nat × Nat), ents = ds.map encS := by
  intro ents
  induction ents with
  | nil => exact fun _ => ⟨[], rfl⟩
  | cons x r ih =>
    intro h
    obtain ⟨ds, hd⟩ := ih (fun y hy => h y (List.mem_cons_of_mem _ hy))
    obtain ⟨p, n, c, rfl⟩ := h x List.mem_cons_self
    exact ⟨(p, n, c) :: ds, by rw [hd]; rfl⟩
theorem delete_any (g n cap L : Nat) (ents : List Value) (w : World) (hr : w.ownsRow 0 28 1 (.slice (some ⟨g, 0, none⟩) L cap) L ents) (hs : ∀ x ∈ ents, ∃ p n c, x = .slice p n c) (hn : n ≤ L) :
    Calls Tryz.prog 172 #[.slice (some ⟨g, 0, none⟩) L cap, .int .i64 0, .int .i64 n] w fun e w' => e = .returned (.slice (some ⟨g, 0, none⟩) (L - n) cap) ∧ w'.ownsRow 0 28 1 (.slice (some ⟨g, 0, none⟩) (L - n) cap) (L - n) (ents.drop n) ∧ Keeps (· = g) w w' := by
  obtain ⟨ds, rfl⟩ := encS_list ents hs
  have hlen : ds.length = L := by have := hr.1; simpa using this
  obtain ⟨cur, hg, hc1, hc2, hc3, ht⟩ : ∃ cur, w.heap[g]? = some (.cells cur 28 (0, 0)) ∧ L ≤ cap ∧ cap ≤ maxLen ∧ cur.size = cap * 1 ∧ cur.toList.take (L * 1) = ds.map encS := by
    rcases hr.2 with ⟨h1, _⟩ | ⟨g', cap', cur, h1, _, h2, h3, h4, h5, h6⟩
    · cases h1
    · simp only [Value.slice.injEq, Option.some.injEq, Addr.mk.injEq, and_true, true_and] at h1
      obtain ⟨rfl, rfl⟩ := h1
      exact ⟨cur, h2, h3, h4, h5, h6⟩
  have hH : Sort.Holds encS w g 0 ds.toArray := by
    intro j hj
    have hj' : j < L := by simpa [hlen] using hj
    refine ⟨?_, Lib.frozen_of_heap hg _⟩
    have := hr.cellAt j (by omega)
    rw [Nat.zero_add, this]
    simp [hlen, hj']
  obtain ⟨i0, hi0, hz0, hz1, hz2⟩ := info_parts infoBytesS
  have hD := AnyE.slices_Delete Tryz.laysSlE45 encS (fun _ => rfl) (none, 0, 0) Tryz.zeroValue28 i0 hi0 hz1 g 0 cap 0 n ds.toArray w hH (by simpa [hlen] using hc1) (by unfold maxLen at hc2; omega) (Nat.zero_le _) (by simpa [hlen] using hn)
  have e1 : ds.toArray.size = L := by simpa using hlen
  rw [e1] at hD
  refine hD.mono ?_
  rintro e w' ⟨rfl, k, rfl⟩
  generalize hd : (ds.toArray.toList.take 0 ++ ds.toArray.toList.drop n ++ List.replicate (n - 0) (none, 0, 0)).toArray = d
  have hdl : d.size = L := by rw [← hd]; simp; omega
  have hget : ∀ j, j < L - n → d[j]! = (ds.drop n).getD j (none, 0, 0) := by
    intro j hj
    rw [← hd]
    simp [List.getElem?_append, List.getD, show j < ds.length - n by omega]
  have hg2 : (Sort.putRow encS (Sort.ahead w k) g 0 d).heap[g]? = some (.cells (Sort.putCells encS 0 d cur) 28 (0, 0)) := by
    simp [Sort.putRow, Sort.mapBlock, Array.getElem?_modify, Sort.ahead, hg, Sort.onCells]
  have hother : ∀ j, j ≠ g → (Sort.putRow encS (Sort.ahead w k) g 0 d).heap[j]? = w.heap[j]? := by
    intro j hj
    simp [Sort.putRow, Sort.mapBlock, Array.getElem?_modify, Sort.ahead, show ¬ g = j from fun e => hj e.symm]
  refine ⟨rfl, ⟨by simp [hlen], .inr ⟨g, cap, _, rfl, Nat.zero_le _, hg2, by omega, hc2, by simp [Sort.putCells, hc3], ?_⟩⟩, ⟨rfl, rfl, rfl, by simp [Sort.ahead], fun j _ hj => hother j hj⟩⟩
  apply List.ext_getElem?
  intro j
  rw [Nat.mul_one, List.getElem?_take]
  by_cases hj : j < L - n
  · rw [if_pos hj]
    have h1 : j < cur.size := by omega
    have h2 : j < d.size := by omega
    have h3 : n + j < ds.length := by omega
    have h4 := hget j hj
    have h5 : d[j] = ds[n + j] := by
      have e1 : d[j]! = d[j] := getElem!_pos d j h2
      rw [← e1, h4]
      simp [List.getD, h3]
    simp [Sort.putCells, h1, h2, h5, h3, List.getElem?_drop]
  · rw [if_neg hj]
    symm
    rw [List.getElem?_eq_none_iff]
    simp [hlen]
    omega
end Go.Proofs.YtkalonhalhdlaaaGreatDoor

/-
  What one call of acknowledge does.
-/
namespace Go.Proofs.YtkalonhalhdlaaaGreatDoor
open Go.RowKit
section
variable {w W : World} {own : Nat → Nat} {i b : Nat} {c : Cfg} {s : St} {cl : Bool} {ch : Nat} {q cm o ev : Value} {qe ce oe : List Value}
theorem Lst.slices {w : World} {own : Nat → Nat} {t : Nat} {v : Value} {ents : List Value} {l : List Msg} (h : Lst w own t v ents l) : ∀ x ∈ ents, ∃ p n c, x = .slice p n c := by
  intro x hx
  obtain ⟨j, hj, rfl⟩ := List.getElem_of_mem hx
  have hl := h.len
  have hb := h.each j _ _ (List.getElem?_eq_getElem hj) (List.getElem?_eq_getElem (by omega))
  obtain ⟨p, cap, e⟩ := row_slice hb.1
  exact ⟨p, _, cap, e⟩
/-- The queue's first ones are gone: its row alone was written. -/
theorem SAt.dropped {g cap : Nat} (h : SAt w own i b c s cl ch (.slice (some ⟨g, 0, none⟩) s.queue.length cap) cm o ev qe ce oe) {n : Nat} {w2 : World}
    (hk : Keeps (· = g) w w2) (hr : w2.ownsRow 0 28 1 (.slice (some ⟨g, 0, none⟩) (s.queue.length - n) cap) (s.queue.length - n) (qe.drop n)) :
    HeadAt w2 b c s ch (.slice (some ⟨g, 0, none⟩) s.queue.length cap) cm o ev ∧ Upd i own own w w2 ∧
    ∀ (w3 : World) (s' : St), Keeps (· = b) w2 w3 → HeadAt w3 b c s' ch (.slice (some ⟨g, 0, none⟩) (s.queue.length - n) cap) cm o ev → s'.queue = s.queue.drop n → s'.came = s.came → s'.out = s.out → s'.events = s.events → s'.fit c →
      SAt w3 own i b c s' cl ch (.slice (some ⟨g, 0, none⟩) (s.queue.length - n) cap) cm o ev (qe.drop n) ce oe ∧ Upd i own own w w3 := by
  have hgo : own g = tg i 1 := h.lq.rown g rfl
  have hbg : b ≠ g := fun e => by rw [← e, h.ownb] at hgo; exact tg_ne (by omega) (by omega) (.inr (by omega)) hgo
  have hcg : ch ≠ g := fun e => by rw [← e, h.ownc] at hgo; exact tg_ne (by omega) (by omega) (.inr (by omega)) hgo
  have hu : Upd i own own w w2 := ⟨hk.mono (fun k hk => ⟨1, by omega, by rw [hk]; exact hgo⟩), fun _ _ => rfl⟩
  refine ⟨by unfold HeadAt; rw [hk.block b h.lt hbg]; exact h.head, hu, ?_⟩
  intro w3 s' hk3 hh e1 e2 e3 e4 hfit
  have hK : Keeps (fun k => k = g ∨ k = b) w w3 := (hk.mono (fun _ h => .inl h)).trans (hk3.mono (fun _ h => .inr h))
  have hne : ∀ p, p < 5 → p ≠ 0 → p ≠ 1 → ∀ k, (k = g ∨ k = b) → own k ≠ tg i p := by
    intro p hp h0 h1 k hk
    rcases hk with hk | hk
    · rw [hk, hgo]; exact tg_ne (by omega) hp (.inr (by omega))
    · rw [hk, h.ownb]; exact tg_ne (by omega) hp (.inr (by omega))
  have hcb : ch ≠ b := fun e => by have := h.head; rw [← e, h.chan] at this; simp at this
  have hlc := (Array.getElem?_eq_some_iff.1 h.chan).1
  refine ⟨⟨hh, h.ownb, ?_, h.ownc, ⟨?_, fun k hk => ?_, ?_, h.lq.apart.drop n⟩, by rw [e2]; exact h.lcm.keeps hK (hne 2 (by omega) (by omega) (by omega)) (fun _ _ => rfl), by rw [e3]; exact h.lo.keeps hK (hne 3 (by omega) (by omega) (by omega)) (fun _ _ => rfl), ?_, h.owne, ?_, h.own0, fun k hs => h.new0 k (Nat.le_trans hK.size hs), h.cok, hfit⟩, hK.mono (fun k hk => by rcases hk with hk | hk; exact ⟨1, by omega, by rw [hk]; exact hgo⟩; exact ⟨0, by omega, by rw [hk]; exact h.ownb⟩), fun _ _ => rfl⟩
  · rw [hK.block ch hlc (fun hx => by rcases hx with hx | hx; exact hcg hx; exact hcb hx)]; exact h.chan
  · rw [e1, List.length_drop]
    exact ownsRow_keepsB hr hk3 (fun k hk e => by simp [Value.ownBlock] at hk; omega)
  · simp [Value.ownBlock] at hk
    rw [← hk]; exact hgo
  · intro j x m h1 h2
    rw [List.getElem?_drop] at h1
    rw [e1, List.getElem?_drop] at h2
    have hx := h.lq.each (n + j) x m h1 h2
    refine ⟨ownsRow_keepsB hx.1 hK (fun k hk hX => ?_), hx.2⟩
    rcases hX with hX | hX
    · obtain ⟨c1, e1⟩ := ownsRow_isRow h.lq.row (k := g) rfl
      obtain ⟨c2, e2⟩ := ownsRow_isRow hx.1 hk
      rw [hX, e1] at e2
      simp at e2
    · have := hx.2 k hk
      rw [hX, h.ownb] at this
      exact tg_ne (by omega) (by omega) (.inr (by omega)) this
  · rw [e4]; exact ownsRow_keepsB h.lev hK (fun k hk hX => hne 4 (by omega) (by omega) (by omega) k hX (h.owne k hk))
  · refine h.ctl.keeps hK h.pos (fun hx => ?_)
    rcases hx with hx | hx
    · rw [← hx, h.own0] at hgo; exact tg_pos _ _ hgo.symm
    · have := h.ownb; rw [← hx, h.own0] at this; exact tg_pos _ _ this.symm
set_option maxHeartbeats 4000000 in
set_option maxRecDepth 100000 in
theorem acknowledge_any (h : SAt w own i b c s cl ch q cm o ev qe ce oe) (nr : Nat) (hnr : nr < c.m) (hle : ahead c s nr ≤ s.queue.length) :
    Calls Tryz.prog 168 #[.pointer (some ⟨b, 0, none⟩), .int .i64 nr] w fun e w' => Did i b c (acknowledge c nr s) cl own w e w' := by
  have k1 := ahead_any h nr hnr
  have hlt := h.lt
  by_cases h0 : ahead c s nr = 0
  · have HP : Hid (acknowledge c nr s = s) := hide (by unfold acknowledge; rw [if_pos h0])
    rw [h0] at k1
    have H := hide h
    clear h h0
    go_enter Tryz.func168, Tryz.ntmps168
    go_wp2_with fail
    refine k1.mono ?_
    rintro e w1 ⟨rfl, n1, rfl⟩
    clear k1
    go_wp2
    refine bodyPost_ret (results_none rfl _ _ _) rfl ?_
    rw [unhide HP]
    exact (unhide H).idleB (below_drewN (Below.refl _ w) _)
  · obtain ⟨g, cap, p, pc, rfl, _, _, hq1, hq2⟩ := h.lq.at 0 (by omega)
    have c8 := h.c_vs
    have c12 := h.c_q
    have fz := h.fz
    have hq20 := h.sok.q20
    have HP : Hid (acknowledge c nr s = { s with vs := if ahead c s s.vs < ahead c s nr then nr else s.vs, queue := s.queue.drop (ahead c s nr), va := nr, timer := if s.polling then s.timer else 0 }) := hide (by unfold acknowledge; rw [if_neg h0])
    have k2 := fun n => ahead_any (h.drewN n) s.vs h.sok.vs
    generalize hn : ahead c s nr = n at *
    have hz : ((n : Int) == 0) = false := by simp; omega
    generalize hx : ahead c s s.vs = x at *
    by_cases hxn : x < n
    · have HP2 : Hid (acknowledge c nr s = { s with vs := nr, queue := s.queue.drop n, va := nr, timer := if s.polling then s.timer else 0 }) := hide (by rw [unhide HP, if_pos hxn])
      have H := hide h
      have HQ2 := hide hq2
      clear h hq2 HP
      go_enter Tryz.func168, Tryz.ntmps168
      go_wp2_with fail
      refine k1.mono ?_
      rintro e w1 ⟨rfl, n1, rfl⟩
      clear k1
      go_wp2_with fail
      refine (k2 _).mono ?_
      rintro e w1 ⟨rfl, n2, rfl⟩
      clear k2
      have h0' := ((unhide H).drewN n1).drewN n2
      have h1 := h0'.wrote (s' := { s with vs := nr }) ((Keeps.refl _ _).setB 8 (.int .i64 (nr : Nat))) (h0'.hd.vs nr) rfl rfl rfl rfl ⟨h0'.sok.state, hnr, h0'.sok.va, h0'.sok.vr, h0'.sok.vm, h0'.sok.q20, h0'.sok.q32, h0'.sok.timer, h0'.sok.tries, h0'.sok.came⟩
      have u1 : Upd i own own w _ := Upd.of (below_drewN (below_drewN (Below.refl _ w) n1) n2) (h0'.upd ((Keeps.refl _ _).setB 8 (.int .i64 (nr : Nat))))
      clear h0'
      rw [World.drewN_drewN] at h1 u1
      have K3 := hide (delete_any g n cap s.queue.length qe _ h1.lq.row h1.lq.slices hle)
      have H1 := hide h1
      have U1 := hide u1
      clear h1 u1
      go_wp2_with fail
      refine (unhide K3).mono ?_
      rintro e w2 ⟨rfl, hr, hk⟩
      obtain ⟨hh2, u2, fin⟩ := (unhide H1).dropped hk hr
      have d12 : w2.cell? ⟨b, 12, none⟩ = some (.slice (some ⟨g, 0, none⟩) s.queue.length cap) := by rw [Lib.cell_of_heap hh2]; rfl
      have d9 : w2.cell? ⟨b, 9, none⟩ = some (.int .i64 s.va) := by rw [Lib.cell_of_heap hh2]; rfl
      have d15 : w2.cell? ⟨b, 15, none⟩ = some (.bool s.polling) := by rw [Lib.cell_of_heap hh2]; rfl
      have d13 : w2.cell? ⟨b, 13, none⟩ = some (.int .i64 s.timer) := by rw [Lib.cell_of_heap hh2]; rfl
      have fz2 : ∀ j, w2.frozen? ⟨b, j, none⟩ = false := fun j => Lib.frozen_of_heap hh2 j
      have hsok := (unhide H1).sok
      have hq : ∀ x ∈ s.queue.drop n, x.length ≤ 32 := fun x hx => hsok.q32 x (List.mem_of_mem_drop hx)
      have hql : (s.queue.drop n).length ≤ 20 := by rw [List.length_drop]; omega
      have HH := hide hh2
      have HFIN := hide fin
      have HSOK := hide hsok
      clear K3 H1 hh2 fin u2 hr hk H HQ2 c8 c12 fz hsok
      by_cases hp : s.polling = true
      · rw [hp] at d15
        have HP3 : Hid (acknowledge c nr s = { s with vs := nr, queue := s.queue.drop n, va := nr }) := hide (by rw [unhide HP2, if_pos hp])
        clear hp HP2
        go_wp2
        go_end0
        rw [unhide HP3]
        have hf := unhide HFIN _ { s with vs := nr, queue := s.queue.drop n, va := nr } (((Keeps.refl _ w2).setB 12 (.slice (some ⟨g, 0, none⟩) (s.queue.length - n) cap)).setB 9 (.int .i64 (nr : Nat))) ((((unhide HH).lq _).va nr).as _ rfl) rfl rfl rfl rfl ⟨(unhide HSOK).state, (unhide HSOK).vs, hnr, (unhide HSOK).vr, (unhide HSOK).vm, hql, hq, (unhide HSOK).timer, (unhide HSOK).tries, (unhide HSOK).came⟩
        exact ⟨rfl, own, ⟨_, _, _, _, _, _, _, _, hf.1⟩, (unhide U1).trans hf.2⟩
      · have hp' : s.polling = false := eq_false_of_ne_true hp
        have HP3 : Hid (acknowledge c nr s = { s with vs := nr, queue := s.queue.drop n, va := nr, timer := 0 }) := hide (by rw [unhide HP2, if_neg hp])
        rw [hp'] at d15
        clear hp hp' HP2
        go_wp2
        go_end0
        rw [unhide HP3]
        have hf := unhide HFIN _ { s with vs := nr, queue := s.queue.drop n, va := nr, timer := 0 } ((((Keeps.refl _ w2).setB 12 (.slice (some ⟨g, 0, none⟩) (s.queue.length - n) cap)).setB 9 (.int .i64 (nr : Nat))).setB 13 (.int .i64 (0 : Nat))) (((((unhide HH).lq _).va nr).timer 0).as _ rfl) rfl rfl rfl rfl ⟨(unhide HSOK).state, (unhide HSOK).vs, hnr, (unhide HSOK).vr, (unhide HSOK).vm, hql, hq, Nat.zero_le _, (unhide HSOK).tries, (unhide HSOK).came⟩
        exact ⟨rfl, own, ⟨_, _, _, _, _, _, _, _, hf.1⟩, (unhide U1).trans hf.2⟩
    · have HP2 : Hid (acknowledge c nr s = { s with vs := s.vs, queue := s.queue.drop n, va := nr, timer := if s.polling then s.timer else 0 }) := hide (by rw [unhide HP, if_neg hxn])
      have H := hide h
      have HQ2 := hide hq2
      clear h hq2 HP
      go_enter Tryz.func168, Tryz.ntmps168
      go_wp2_with fail
      refine k1.mono ?_
      rintro e w1 ⟨rfl, n1, rfl⟩
      clear k1
      go_wp2_with fail
      refine (k2 _).mono ?_
      rintro e w1 ⟨rfl, n2, rfl⟩
      clear k2
      have h1 := ((unhide H).drewN n1).drewN n2
      have u1 : Upd i own own w ((w.drewN n1).drewN n2) := Upd.of (below_drewN (below_drewN (Below.refl _ w) n1) n2) (Upd.refl _ _ _)
      rw [World.drewN_drewN] at h1 u1
      have K3 := hide (delete_any g n cap s.queue.length qe _ h1.lq.row h1.lq.slices hle)
      have H1 := hide h1
      have U1 := hide u1
      clear h1 u1
      go_wp2_with fail
      refine (unhide K3).mono ?_
      rintro e w2 ⟨rfl, hr, hk⟩
      obtain ⟨hh2, u2, fin⟩ := (unhide H1).dropped hk hr
      have d12 : w2.cell? ⟨b, 12, none⟩ = some (.slice (some ⟨g, 0, none⟩) s.queue.length cap) := by rw [Lib.cell_of_heap hh2]; rfl
      have d9 : w2.cell? ⟨b, 9, none⟩ = some (.int .i64 s.va) := by rw [Lib.cell_of_heap hh2]; rfl
      have d15 : w2.cell? ⟨b, 15, none⟩ = some (.bool s.polling) := by rw [Lib.cell_of_heap hh2]; rfl
      have d13 : w2.cell? ⟨b, 13, none⟩ = some (.int .i64 s.timer) := by rw [Lib.cell_of_heap hh2]; rfl
      have fz2 : ∀ j, w2.frozen? ⟨b, j, none⟩ = false := fun j => Lib.frozen_of_heap hh2 j
      have hsok := (unhide H1).sok
      have hq : ∀ x ∈ s.queue.drop n, x.length ≤ 32 := fun x hx => hsok.q32 x (List.mem_of_mem_drop hx)
      have hql : (s.queue.drop n).length ≤ 20 := by rw [List.length_drop]; omega
      have HH := hide hh2
      have HFIN := hide fin
      have HSOK := hide hsok
      clear K3 H1 hh2 fin u2 hr hk H HQ2 c8 c12 fz hsok
      by_cases hp : s.polling = true
      · rw [hp] at d15
        have HP3 : Hid (acknowledge c nr s = { s with vs := s.vs, queue := s.queue.drop n, va := nr }) := hide (by rw [unhide HP2, if_pos hp])
        clear hp HP2
        go_wp2
        go_end0
        rw [unhide HP3]
        have hf := unhide HFIN _ { s with vs := s.vs, queue := s.queue.drop n, va := nr } (((Keeps.refl _ w2).setB 12 (.slice (some ⟨g, 0, none⟩) (s.queue.length - n) cap)).setB 9 (.int .i64 (nr : Nat))) ((((unhide HH).lq _).va nr).as _ rfl) rfl rfl rfl rfl ⟨(unhide HSOK).state, (unhide HSOK).vs, hnr, (unhide HSOK).vr, (unhide HSOK).vm, hql, hq, (unhide HSOK).timer, (unhide HSOK).tries, (unhide HSOK).came⟩
        exact ⟨rfl, own, ⟨_, _, _, _, _, _, _, _, hf.1⟩, (unhide U1).trans hf.2⟩
      · have hp' : s.polling = false := eq_false_of_ne_true hp
        have HP3 : Hid (acknowledge c nr s = { s with vs := s.vs, queue := s.queue.drop n, va := nr, timer := 0 }) := hide (by rw [unhide HP2, if_neg hp])
        rw [hp'] at d15
        clear hp hp' HP2
        go_wp2
        go_end0
        rw [unhide HP3]
        have hf := unhide HFIN _ { s with vs := s.vs, queue := s.queue.drop n, va := nr, timer := 0 } ((((Keeps.refl _ w2).setB 12 (.slice (some ⟨g, 0, none⟩) (s.queue.length - n) cap)).setB 9 (.int .i64 (nr : Nat))).setB 13 (.int .i64 (0 : Nat))) (((((unhide HH).lq _).va nr).timer 0).as _ rfl) rfl rfl rfl rfl ⟨(unhide HSOK).state, (unhide HSOK).vs, hnr, (unhide HSOK).vr, (unhide HSOK).vm, hql, hq, Nat.zero_le _, (unhide HSOK).tries, (unhide HSOK).came⟩
        exact ⟨rfl, own, ⟨_, _, _, _, _, _, _, _, hf.1⟩, (unhide U1).trans hf.2⟩
end
end Go.Proofs.YtkalonhalhdlaaaGreatDoor

/-
  What one call of isClosed does: a select with a default on the station's channel.
-/
namespace Go.Proofs.YtkalonhalhdlaaaGreatDoor
open Go.Conc Go.RowKit
set_option maxHeartbeats 2000000 in
set_option maxRecDepth 100000 in
theorem isClosed_open (b ch cap s r : Nat) (tm : Bool) (w : World) (c6 : w.cell? ⟨b, 6, none⟩ = some (.chan (some ch))) (hc : w.heap[ch]? = some (.chan cap #[] false s r tm)) :
    Calls Tryz.prog 88 #[.pointer (some ⟨b, 0, none⟩)] w fun e w' => e = .returned (.bool false) ∧ w' = w := by
  refine calls_of_loneTo fun cs => ?_
  have e : Frame.enter Tryz.prog 88 #[.pointer (some ⟨b, 0, none⟩)] .normal = (base 88).at ⟨#[.pointer (some ⟨b, 0, none⟩), undef, undef, undef, undef, undef, undef, undef, undef, undef], []⟩ [.code (Tryz.f88.body.getD .skip)] := by
    simp [Frame.enter, Frame.at, Tryz.func88, base, Tryz.f88]
  rw [e]
  refine LoneTo.goes (n := 60) ?_
  simp only [Tryz.f88, Option.getD_some]
  s_c stepG_seq
  s_reg
  s_op
  s_c stepG_region_end
  s_c stepG_seq
  s_reg
  s_op
  s_op
  s_op
  s_op
  s_c stepG_region_end
  s_c stepG_seq
  s_reg
  s_stop
  refine LoneTo.step (step_lone_select_default (c := ch) (z := .agg #[]) (cap := cap) (s := s) (r := r) (tm := tm) (stepG_comm (cases := #[rcase ch (.agg #[])]) (blocking := false) (shape := .select) (w' := w) rfl rfl (by decide) (by simp [go_sem, execOp, rcase, Act.eval])) hc) ?_
  rw [Frame.finish_at]
  walk_nrm
  refine LoneTo.goes (n := 40) ?_
  s_op
  s_op
  s_c stepG_region_end
  s_c stepG_block
  s_cond false
  s_c stepG_seq
  s_reg
  s_op
  s_c stepG_region_end
  s_c stepG_ret'
  s_stop
  exact LoneTo.done ⟨.returned (.bool false), _, rfl, ⟨rfl, rfl⟩, rfl, rfl, rfl, rfl, _, Tryz.func88, by simp [results, Tryz.f88, Frame.at]⟩
set_option maxHeartbeats 2000000 in
set_option maxRecDepth 100000 in
theorem isClosed_shut (b ch cap s r : Nat) (tm : Bool) (w : World) (c6 : w.cell? ⟨b, 6, none⟩ = some (.chan (some ch))) (hc : w.heap[ch]? = some (.chan cap #[] true s r tm)) :
    Calls Tryz.prog 88 #[.pointer (some ⟨b, 0, none⟩)] w fun e w' => e = .returned (.bool true) ∧ w' = w := by
  refine calls_of_loneTo fun cs => ?_
  have e : Frame.enter Tryz.prog 88 #[.pointer (some ⟨b, 0, none⟩)] .normal = (base 88).at ⟨#[.pointer (some ⟨b, 0, none⟩), undef, undef, undef, undef, undef, undef, undef, undef, undef], []⟩ [.code (Tryz.f88.body.getD .skip)] := by
    simp [Frame.enter, Frame.at, Tryz.func88, base, Tryz.f88]
  rw [e]
  refine LoneTo.goes (n := 60) ?_
  simp only [Tryz.f88, Option.getD_some]
  s_c stepG_seq
  s_reg
  s_op
  s_c stepG_region_end
  s_c stepG_seq
  s_reg
  s_op
  s_op
  s_op
  s_op
  s_c stepG_region_end
  s_c stepG_seq
  s_reg
  s_stop
  refine LoneTo.step (step_lone_select_recv_shut (c := ch) (z := .agg #[]) (cap := cap) (s := s) (r := r) (tm := tm) (stepG_comm (cases := #[rcase ch (.agg #[])]) (blocking := false) (shape := .select) (w' := w) rfl rfl (by decide) (by simp [go_sem, execOp, rcase, Act.eval])) hc) ?_
  rw [Frame.finish_at]
  walk_nrm
  refine LoneTo.goes (n := 40) ?_
  s_op
  s_op
  s_c stepG_region_end
  s_c stepG_block
  s_cond true
  s_c stepG_seq
  s_reg
  s_op
  s_c stepG_region_end
  s_c stepG_ret'
  s_stop
  exact LoneTo.done ⟨.returned (.bool true), _, rfl, ⟨rfl, rfl⟩, rfl, rfl, rfl, rfl, _, Tryz.func88, by simp [results, Tryz.f88, Frame.at]⟩
theorem isClosed_any {w : World} {own : Nat → Nat} {i b : Nat} {c : Cfg} {s : St} {cl : Bool} {ch : Nat} {q cm o ev : Value} {qe ce oe : List Value} (h : SAt w own i b c s cl ch q cm o ev qe ce oe) :
    Calls Tryz.prog 88 #[.pointer (some ⟨b, 0, none⟩)] w fun e w' => e = .returned (.bool cl) ∧ w' = w := by
  cases cl with
  | false => exact isClosed_open b ch 0 0 0 false w h.c_ch h.chan
  | true => exact isClosed_shut b ch 0 0 0 false w h.c_ch h.chan
end Go.Proofs.YtkalonhalhdlaaaGreatDoor

/-
  What the methods of a station do that hear a frame: heeds, and what is Down, Calling, Leaving; fallApart; answerChange.
-/
namespace Go.Proofs.YtkalonhalhdlaaaGreatDoor
open Go.RowKit
section
variable {w W : World} {own : Nat → Nat} {i b : Nat} {c : Cfg} {s : St} {cl : Bool} {ch : Nat} {q cm o ev : Value} {qe ce oe : List Value}
/-- What was boxed stands behind a call that only makes memory. -/
theorem boxB {w w1 : World} {x : Obj} (hb : Below (w.alloc x).heap.size (w.alloc x) w1) : w1.heap[w.heap.size]? = some x := by
  rw [hb.block w.heap.size (by rw [alloc1_s]; omega)]
  exact alloc1_a w x
set_option maxHeartbeats 4000000 in
set_option maxRecDepth 100000 in
theorem heeds_any (h : SAt w own i b c s cl ch q cm o ev qe ce oe) (f : Fr) (fq : Option Addr) (fc : Nat) :
    Calls Tryz.prog 120 #[.pointer (some ⟨b, 0, none⟩), frV f fq fc] w fun e w' => e = .returned (.bool (heeds c f)) ∧ Below w.heap.size w w' := by
  have hk := fun V (hV : Below w.heap.size w V) => isCommand_any (h.later hV) f fq fc
  have hlt := h.lt
  have hdef : heeds c f = if f.k = 1 ∨ f.k = 5 ∨ f.k = 6 then isCmd c f else if f.k = 7 ∨ f.k = 8 ∨ f.k = 9 then !isCmd c f else true := rfl
  generalize isCmd c f = x at hk hdef
  have HK := hide hk
  have HD := hide hdef
  clear h hk hdef
  obtain ⟨fa, fk, fp, fns, fnr, info⟩ := f
  unfold frV at HK ⊢
  simp only at HK HD ⊢
  by_cases h1 : fk = 1 ∨ fk = 5 ∨ fk = 6
  · have HD2 := hide ((unhide HD).trans (if_pos h1))
    clear HD
    rcases h1 with rfl | rfl | rfl
    all_goals
      go_enter Tryz.func120, Tryz.ntmps120
      go_wp2_with fail
      refine (unhide HK _ ?_).mono ?_
      · exact (Below.refl _ w).alloc (Nat.le_refl _) _
      rintro e w1 ⟨rfl, hb⟩
      have HB := hide (((Below.refl _ w).alloc (Nat.le_refl _) _).trans (hb.mono (by simp)))
      clear hb HK
      go_wp2
      go_ret
      exact ⟨ret_bool (unhide HD2).symm, unhide HB⟩
  · have HD1 := hide ((unhide HD).trans (if_neg h1))
    have n1 : (fk == 1) = false := by simp; omega
    have n5 : (fk == 5) = false := by simp; omega
    have n6 : (fk == 6) = false := by simp; omega
    clear HD
    by_cases h2 : fk = 7 ∨ fk = 8 ∨ fk = 9
    · have HD2 := hide ((unhide HD1).trans (if_pos h2))
      clear HD1 h1 n1 n5 n6
      rcases h2 with rfl | rfl | rfl
      all_goals
        go_enter Tryz.func120, Tryz.ntmps120
        go_wp2_with fail
        refine (unhide HK _ ?_).mono ?_
        · exact (Below.refl _ w).alloc (Nat.le_refl _) _
        rintro e w1 ⟨rfl, hb⟩
        have HB := hide (((Below.refl _ w).alloc (Nat.le_refl _) _).trans (hb.mono (by simp)))
        clear hb HK
        go_wp2
        go_ret
        exact ⟨ret_bool (unhide HD2).symm, unhide HB⟩
    · have HD2 := hide ((unhide HD1).trans (if_neg h2))
      have n7 : (fk == 7) = false := by simp; omega
      have n8 : (fk == 8) = false := by simp; omega
      have n9 : (fk == 9) = false := by simp; omega
      clear HD1 h1 h2 HK
      go_enter Tryz.func120, Tryz.ntmps120
      go_wp2
      go_ret
      exact ⟨ret_bool (unhide HD2).symm, (Below.refl _ w).alloc (Nat.le_refl _) _⟩
set_option maxHeartbeats 4000000 in
set_option maxRecDepth 100000 in
theorem hearDown_any (h : SAt w own i b c s cl ch q cm o ev qe ce oe) (f : Fr) (fq : Option Addr) (fc : Nat) (hl : s.out.length ≤ 2199023255552) (hl2 : s.events.length ≤ 2199023255552) :
    Calls Tryz.prog 143 #[.pointer (some ⟨b, 0, none⟩), frV f fq fc] w fun e w' => Did i b c (hearDown c f s) cl own w e w' := by
  have hlt := h.lt
  have k1 := fun V (hV : Below w.heap.size w V) => accept_any (h.later hV) 1 f fq fc hl hl2
  have k2 := fun V (hV : Below w.heap.size w V) => respond_any (h.later hV) 8 f fq fc hl
  have k3 := fun V (hV : Below w.heap.size w V) => isCommand_any (h.later hV) f fq fc
  have hdef : hearDown c f s = if f.k = 5 then accept c f.p 1 s else if f.k = 6 then respond c 8 f.p s else if f.k = 1 ∨ f.k = 2 ∨ f.k = 3 ∨ f.k = 4 then (if isCmd c f && f.p then respond c 8 f.p s else s) else s := rfl
  generalize isCmd c f = x at k3 hdef
  have K1 := hide k1
  have K2 := hide k2
  have K3 := hide k3
  have HD := hide hdef
  have HI := hide h
  clear h k1 k2 k3 hdef
  obtain ⟨fa, fk, fp, fns, fnr, info⟩ := f
  unfold frV at K1 K2 K3 ⊢
  simp only at K1 K2 K3 HD ⊢
  by_cases h5 : fk = 5
  · have HD2 := hide ((unhide HD).trans (if_pos h5))
    clear HD
    subst h5
    go_enter Tryz.func143, Tryz.ntmps143
    go_wp2_with fail
    refine (unhide K1 _ ?_).mono ?_
    · exact (Below.refl _ w).alloc (Nat.le_refl _) _
    rintro e w1 ⟨rfl, own2, h3, u3⟩
    have HR := hide (And.intro h3 (Upd.of (w := w) ((Below.refl _ w).alloc (Nat.le_refl _) _) u3))
    clear h3 u3 K1
    go_wp2
    first | go_end0 | refine bodyPost_ret (results_none rfl _ _ _) rfl ?_
    rw [unhide HD2]
    exact ⟨rfl, own2, (unhide HR).1, (unhide HR).2⟩
  · have HD1 := hide ((unhide HD).trans (if_neg h5))
    clear HD
    by_cases h6 : fk = 6
    · have HD2 := hide ((unhide HD1).trans (if_pos h6))
      clear HD1
      subst h6
      go_enter Tryz.func143, Tryz.ntmps143
      go_wp2_with fail
      refine (unhide K2 _ ?_).mono ?_
      · exact (Below.refl _ w).alloc (Nat.le_refl _) _
      rintro e w1 ⟨rfl, own2, h3, u3⟩
      have HR := hide (And.intro h3 (Upd.of (w := w) ((Below.refl _ w).alloc (Nat.le_refl _) _) u3))
      clear h3 u3 K2
      go_wp2
      first | go_end0 | refine bodyPost_ret (results_none rfl _ _ _) rfl ?_
      rw [unhide HD2]
      exact ⟨rfl, own2, (unhide HR).1, (unhide HR).2⟩
    · have HD3 := hide ((unhide HD1).trans (if_neg h6))
      clear HD1
      by_cases h1 : fk = 1 ∨ fk = 2 ∨ fk = 3 ∨ fk = 4
      · have HD4 := hide ((unhide HD3).trans (if_pos h1))
        clear HD3 K1 h5 h6
        cases x with
        | false =>
          have HD2 := hide ((unhide HD4).trans (if_neg (by simp)))
          clear HD4
          rcases h1 with rfl | rfl | rfl | rfl
          all_goals
            go_enter Tryz.func143, Tryz.ntmps143
            go_wp2_with fail
            refine (unhide K3 _ ((Below.refl _ w).alloc (Nat.le_refl _) _)).mono ?_
            rintro e w1 ⟨rfl, hb⟩
            obtain ⟨y0, y1, y2, y3, y4, y5⟩ := frBox (boxB hb)
            have HB := hide (((Below.refl _ w).alloc (Nat.le_refl _) _).trans (hb.mono (by simp)))
            clear hb K3
            go_wp2
            first | go_end0 | refine bodyPost_ret (results_none rfl _ _ _) rfl ?_
            rw [unhide HD2]
            exact (unhide HI).idleB (unhide HB)
        | true =>
          cases fp with
          | false =>
            have HD2 := hide ((unhide HD4).trans (if_neg (by simp)))
            clear HD4
            rcases h1 with rfl | rfl | rfl | rfl
            all_goals
              go_enter Tryz.func143, Tryz.ntmps143
              go_wp2_with fail
              refine (unhide K3 _ ((Below.refl _ w).alloc (Nat.le_refl _) _)).mono ?_
              rintro e w1 ⟨rfl, hb⟩
              obtain ⟨y0, y1, y2, y3, y4, y5⟩ := frBox (boxB hb)
              have HB := hide (((Below.refl _ w).alloc (Nat.le_refl _) _).trans (hb.mono (by simp)))
              clear hb K3
              go_wp2
              first | go_end0 | refine bodyPost_ret (results_none rfl _ _ _) rfl ?_
              rw [unhide HD2]
              exact (unhide HI).idleB (unhide HB)
          | true =>
            have HD2 := hide ((unhide HD4).trans (if_pos (by simp)))
            clear HD4
            rcases h1 with rfl | rfl | rfl | rfl
            all_goals
              go_enter Tryz.func143, Tryz.ntmps143
              go_wp2_with fail
              refine (unhide K3 _ ((Below.refl _ w).alloc (Nat.le_refl _) _)).mono ?_
              rintro e w1 ⟨rfl, hb⟩
              obtain ⟨y0, y1, y2, y3, y4, y5⟩ := frBox (boxB hb)
              have HB := hide (((Below.refl _ w).alloc (Nat.le_refl _) _).trans (hb.mono (by simp)))
              clear hb K3
              go_wp2_with fail
              refine (unhide K2 _ (unhide HB)).mono ?_
              rintro e w2 ⟨rfl, own2, h3, u3⟩
              have HR := hide (And.intro h3 (Upd.of (w := w) (unhide HB) u3))
              clear h3 u3 K2
              go_wp2
              first | go_end0 | refine bodyPost_ret (results_none rfl _ _ _) rfl ?_
              rw [unhide HD2]
              exact ⟨rfl, own2, (unhide HR).1, (unhide HR).2⟩
      · have HD2 := hide ((unhide HD3).trans (if_neg h1))
        have n1 : (fk == 1) = false := by simp; omega
        have n2 : (fk == 2) = false := by simp; omega
        have n3 : (fk == 3) = false := by simp; omega
        have n4 : (fk == 4) = false := by simp; omega
        have n5 : (fk == 5) = false := by simp; omega
        have n6 : (fk == 6) = false := by simp; omega
        clear HD3 K1 K2 K3 h1 h5 h6
        go_enter Tryz.func143, Tryz.ntmps143
        go_wp2
        first | go_end0 | refine bodyPost_ret (results_none rfl _ _ _) rfl ?_
        rw [unhide HD2]
        exact (unhide HI).idleB ((Below.refl _ w).alloc (Nat.le_refl _) _)
end
end Go.Proofs.YtkalonhalhdlaaaGreatDoor

/-
  The book of lists that came out, in memory; what one step of its writing does.
-/
namespace Go.Proofs.YtkalonhalhdlaaaGreatDoor
open Go.RowKit
/-- The law's World in memory: its six cells. -/
def WAt (w : World) (wb : Nat) (cs : Array Value) : Prop := w.heap[wb]? = some (.cells cs 45 (0, 0))
section
variable {w : World} {wb : Nat} {cs : Array Value}
theorem WAt.lt (h : WAt w wb cs) : wb < w.heap.size := (Array.getElem?_eq_some_iff.1 h).1
theorem WAt.cell (h : WAt w wb cs) (j : Nat) (v : Value) (hj : cs[j]? = some v) : w.cell? ⟨wb, j, none⟩ = some v := by
  rw [Lib.cell_of_heap h]; exact hj
theorem WAt.fz (h : WAt w wb cs) (i : Nat) : w.frozen? ⟨wb, i, none⟩ = false := Lib.frozen_of_heap h i
theorem WAt.set (h : WAt w wb cs) (j : Nat) (v : Value) : WAt (w.setCell ⟨wb, j, none⟩ v) wb (cs.setIfInBounds j v) := by
  unfold WAt at *
  simp [World.setCell, Array.getElem?_modify, h]
theorem WAt.keeps {X : Nat → Prop} {w' : World} (h : WAt w wb cs) (k : Keeps X w w') (hx : ¬ X wb) : WAt w' wb cs := by
  unfold WAt
  rw [k.block wb h.lt hx]; exact h
end
/-- Amid the writing of one group of four. -/
structure KInv (w : World) (X : Nat → Prop) (wb : Nat) (wr : World) (cs : Array Value) (E S : TypeId) (bs : Value) (ents : List Value) (mk : List Value) (us : List (Value × Nat)) : Prop where
  head : WAt wr wb cs
  row : wr.ownsRow 0 S 1 bs ents.length ents
  marks : ∀ u ∈ us, MarksK wr E mk u.1 u.2
  keeps : Keeps X w wr
  mineB : Mine X w.heap.size bs
  mineU : ∀ u ∈ us, Mine X w.heap.size u.1
section
variable {w wr : World} {X : Nat → Prop} {wb : Nat} {cs : Array Value} {E S : TypeId} {bs : Value} {ents mk : List Value} {us : List (Value × Nat)}
theorem KInv.later {wr' : World} (h : KInv w X wb wr cs E S bs ents mk us) (k : Keeps (fun _ => False) wr wr') : KInv w X wb wr' cs E S bs ents mk us :=
  ⟨h.head.keeps k id, ownsRow_keeps h.row k (fun _ hi => absurd hi id), fun u hu => ownsRow_keeps (h.marks u hu) k (fun _ hi => absurd hi id), h.keeps.trans (k.mono (fun _ hi => absurd hi id)), h.mineB, h.mineU⟩
theorem Keeps.mine {X : Nat → Prop} {w W w2 : World} {v : Value} (h : Keeps X w W) (hm : Mine X w.heap.size v) (hg : W.grownBy w2 v.ownBlock) : Keeps X w w2 := by
  have hk := Keeps.grown hg
  exact ⟨hk.os.trans h.os, hk.tape.trans h.tape, hk.output.trans h.output, Nat.le_trans h.size hk.size, fun i hi hX => (hk.block i (Nat.lt_of_lt_of_le hi h.size) (fun hv => by rcases hm i hv.symm with q | q; exact hX q; omega)).trans (h.block i hi hX)⟩
theorem KInv.mark {w2 : World} {o : Obj} {v v' : Value} {n m : Nat} (h : KInv w X wb wr cs E S bs ents mk us) (hEW : E ≠ 45) (hES : E ≠ S) (hv : MarksK wr E mk v n) (hmv : Mine X w.heap.size v) (hle : ∀ u ∈ us, u.2 ≤ n + m)
    (hv' : MarksK w2 E mk v' (n + m)) (hk : ∀ u k, MarksK (wr.alloc o) E mk u k → (u.ownBlock = v.ownBlock → k ≤ n + m) → MarksK w2 E mk u k) (hg : (wr.alloc o).grownBy w2 v.ownBlock)
    (hb : v'.ownBlock = v.ownBlock ∨ ∃ q, v'.ownBlock = some q ∧ (wr.alloc o).heap.size ≤ q) : KInv w X wb w2 cs E S bs ents mk (us ++ [(v', n + m)]) := by
  have hA := h.later ((Keeps.refl _ wr).alloc o)
  have hvA : MarksK (wr.alloc o) E mk v n := World.ownsRow.alloc hv o
  have hG := Keeps.grown hg
  have hrow : ∀ i, some i = v.ownBlock → ∀ c fz (e : TypeId), e ≠ E → (wr.alloc o).heap[i]? ≠ some (.cells c e fz) := by
    intro i hi c fz e he hc
    obtain ⟨c2, h2⟩ := ownsRow_isRow hvA hi.symm
    rw [h2] at hc
    simp at hc
    exact he hc.2.1.symm
  have hsz : w.heap.size ≤ (wr.alloc o).heap.size := hA.keeps.size
  refine ⟨hA.head.keeps hG (fun hi => hrow wb hi _ _ _ (fun e => hEW e.symm) hA.head), ownsRow_keeps hA.row hG (fun i hi c fz => hrow i hi c fz _ (fun e => hES e.symm)), ?_, hA.keeps.mine hmv hg, h.mineB, ?_⟩
  · intro u hu
    rcases List.mem_append.1 hu with hu | hu
    · exact hk u.1 u.2 (hA.marks u hu) (fun _ => hle u hu)
    · simp at hu
      subst hu
      exact hv'
  · intro u hu
    rcases List.mem_append.1 hu with hu | hu
    · exact h.mineU u hu
    · simp at hu
      subst hu
      intro i hi
      rcases hb with e | ⟨q, e, hq⟩
      · exact hmv i (e ▸ hi)
      · exact .inr ((Option.some.inj (e.symm.trans hi)) ▸ Nat.le_trans hsz hq)
theorem KInv.pushHead {w2 : World} {o : Obj} (h : KInv w X wb wr cs E S bs ents mk us) (hSW : S ≠ 45) (hg : (wr.alloc o).grownBy w2 bs.ownBlock) : WAt w2 wb cs := by
  have hA := h.later ((Keeps.refl _ wr).alloc o)
  refine hA.head.keeps (Keeps.grown hg) (fun hi => ?_)
  obtain ⟨c2, h2⟩ := ownsRow_isRow hA.row hi.symm
  have h3 := hA.head
  unfold WAt at h3
  rw [h2] at h3
  simp at h3
  exact hSW h3.2
theorem KInv.push {w2 : World} {o : Obj} {x bs' : Value} {N : Nat} (h : KInv w X wb wr cs E S bs ents mk us) (hX : X wb) (hSW : S ≠ 45) (hEW : E ≠ 45) (hES : E ≠ S)
    (hown : w2.ownsRow 0 S 1 bs' (ents.length + 1) (ents ++ [x])) (hg : (wr.alloc o).grownBy w2 bs.ownBlock) (hb : bs'.ownBlock = bs.ownBlock ∨ bs'.ownBlock = some N) (hN : w.heap.size ≤ N) (j : Nat) :
    KInv w X wb (w2.setCell ⟨wb, j, none⟩ bs') (cs.setIfInBounds j bs') E S bs' (ents ++ [x]) mk us := by
  have hA := h.later ((Keeps.refl _ wr).alloc o)
  have hG := Keeps.grown hg
  have hhd := h.pushHead hSW hg
  have hrow : ∀ i, some i = bs.ownBlock → ∀ c fz (e : TypeId), e ≠ S → (wr.alloc o).heap[i]? ≠ some (.cells c e fz) := by
    intro i hi c fz e he hc
    obtain ⟨c2, h2⟩ := ownsRow_isRow hA.row hi.symm
    rw [h2] at hc
    simp at hc
    exact he hc.2.1.symm
  have hne : ∀ i, i = wb → ∀ c fz (e : TypeId), e ≠ 45 → w2.heap[i]? ≠ some (.cells c e fz) := by
    intro i hi c fz e he hc
    subst hi
    unfold WAt at hhd
    rw [hhd] at hc
    simp at hc
    exact he hc.2.1.symm
  have k : Keeps (· = wb) w2 (w2.setCell ⟨wb, j, none⟩ bs') := (Keeps.refl _ w2).setB _ _
  refine ⟨hhd.set j bs', ?_, ?_, (hA.keeps.mine h.mineB hg).trans (k.mono (fun i hi => hi ▸ hX)), ?_, h.mineU⟩
  · rw [List.length_append]
    exact ownsRow_keeps hown k (fun i hi c fz => hne i hi c fz _ hSW)
  · intro u hu
    exact ownsRow_keeps (ownsRow_keeps (hA.marks u hu) hG (fun i hi c fz => hrow i hi c fz _ hES)) k (fun i hi c fz => hne i hi c fz _ hEW)
  · intro i hi
    rcases hb with e | e
    · exact h.mineB i (e ▸ hi)
    · exact .inr ((Option.some.inj (e.symm.trans hi)) ▸ hN)
end
end Go.Proofs.YtkalonhalhdlaaaGreatDoor

/-
  Three contracts of the library's shelf (strings.Builder's String, bytes.Clone, bytes.Equal) at this program's numbers.
-/
namespace Go.Proofs
open Go.Shelf
def Tryz.lays169_ren : Go.Shelf.Ren := ⟨fun | 169 => 67 | n => n, fun | 70 => 107 | 9 => 9 | 0 => 0 | 72 => 109 | 37 => 28 | 127 => 144 | 3 => 3 | 5 => 5 | n => n, fun | n => n⟩
theorem Tryz.lays169 : Go.Proofs.Lays.n169 Tryz.prog Tryz.lays169_ren := {
  mixed := by kernel_rfl
  f169 := Tryz.func67.trans (congrArg some (by kernel_rfl))
  t0 := Tryz.underlying0
  a0 := Tryz.isAgg0
  z0 := Tryz.sizeOf0
  v0 := Tryz.zeroValue0
  t3 := Tryz.underlying3
  a3 := Tryz.isAgg3
  z3 := Tryz.sizeOf3
  v3 := Tryz.zeroValue3
  t9 := Tryz.underlying9
  a9 := Tryz.isAgg9
  z9 := Tryz.sizeOf9
  v9 := Tryz.zeroValue9
  t37 := Tryz.underlying28
  a37 := Tryz.isAgg28
  z37 := Tryz.sizeOf28
  v37 := Tryz.zeroValue28
  t70 := Tryz.underlying107
  a70 := Tryz.isAgg107
  z70 := Tryz.sizeOf107
  v70 := Tryz.zeroValue107
  t72 := Tryz.underlying109
  a72 := Tryz.isAgg109
  z72 := Tryz.sizeOf109
  v72 := Tryz.zeroValue109
  t127 := Tryz.underlying144
  a127 := Tryz.isAgg144
  z127 := Tryz.sizeOf144
  v127 := Tryz.zeroValue144 }
theorem Tryz.Builder_Extra_169 : Builder.Extra Tryz.prog Tryz.lays169_ren := {
  sizeBuilder := by kernel_rfl
  liesBuilder := by kernel_rfl
  t5 := Tryz.underlying5
  a5 := Tryz.isAgg5
  z5 := Tryz.sizeOf5
  v5 := Tryz.zeroValue5
  infoByte := by kernel_rfl
  cellsByte := by kernel_rfl
  sizeByte := by kernel_rfl
  neB5 := by decide }
open Go.RowKit in
theorem Tryz.Builder_String_any_k (B b : Nat) (l : List UInt8) (w : World) (h : Lib.IsBuilderF 109 5 B b (Lib.byteCells l) w) (hBw : B ≤ w.heap.size) :
    Calls Tryz.prog 67 #[.pointer (some ⟨b, 0, none⟩)] w fun e w' => e = .returned (.string ⟨l.toArray⟩) ∧ (Lib.IsBuilderF 109 5 B b (Lib.byteCells l) w' ∧ Below B w w' ∧ Lib.OthersKept 5 (some b) w w') := Any.Builder_String_any_k Tryz.lays169 Tryz.Builder_Extra_169 B b l w h hBw
def Tryz.laysSlK4_ren : Go.Shelf.Ren := ⟨fun | 4 => 98 | n => n, fun | 22 => 28 | 4 => 4 | 5 => 5 | n => n, fun | n => n⟩
theorem Tryz.laysSlK4 : Go.Proofs.SlLaysK.n4 Tryz.prog Tryz.laysSlK4_ren := {
  mixed := by kernel_rfl
  f4 := Tryz.func98.trans (congrArg some (by kernel_rfl))
  t4 := Tryz.underlying4
  a4 := Tryz.isAgg4
  z4 := Tryz.sizeOf4
  v4 := Tryz.zeroValue4
  t22 := Tryz.underlying28
  a22 := Tryz.isAgg28
  z22 := Tryz.sizeOf28
  v22 := Tryz.zeroValue28
  t5 := Tryz.underlying5
  i5 := by kernel_rfl }
open Go.RowKit Go.Lib in
theorem Tryz.bytes_Clone_at (a : Addr) (n c : Nat) (xs : List Int) (w : World) (hx : xs.length = n) (hbig : n ≤ 140737488355328) (hc : ∀ i, i < n → w.cell? (a.add i) = some (.int .u8 (xs.getD i 0))) :
    Calls Tryz.prog 98 #[.slice (some a) n c] w fun e w' => ∃ v', e = .returned v' ∧ w'.ownsRow w.heap.size 5 1 v' n (xs.map (Value.int .u8)) ∧ v' ≠ .slice none 0 0 ∧ Below w.heap.size w w' := Any.bytes_Clone_at Tryz.laysSlK4 a n c xs w hx hbig hc
def Tryz.laysnb115_ren : Go.Shelf.Ren := ⟨fun | 115 => 171 | n => n, fun | 37 => 28 | 4 => 4 | 9 => 9 | 5 => 5 | n => n, fun | n => n⟩
theorem Tryz.laysnb115 : Go.Proofs.Lays.nb115 Tryz.prog Tryz.laysnb115_ren := {
  mixed := by kernel_rfl
  f115 := Tryz.func171.trans (congrArg some (by kernel_rfl))
  t4 := Tryz.underlying4
  a4 := Tryz.isAgg4
  z4 := Tryz.sizeOf4
  v4 := Tryz.zeroValue4
  t9 := Tryz.underlying9
  a9 := Tryz.isAgg9
  z9 := Tryz.sizeOf9
  v9 := Tryz.zeroValue9
  t37 := Tryz.underlying28
  a37 := Tryz.isAgg28
  z37 := Tryz.sizeOf28
  v37 := Tryz.zeroValue28
  t5 := Tryz.underlying5
  a5 := Tryz.isAgg5
  z5 := Tryz.sizeOf5
  v5 := Tryz.zeroValue5 }
theorem Tryz.bytes_Equal_all (p1 p2 : Option Addr) (n c m d : Nat) (xs ys : List Int) (w : World) (hx : xs.length = n) (hy : ys.length = m) (h1 : Lib.BytesIn w p1 n xs) (h2 : Lib.BytesIn w p2 m ys) :
    Calls Tryz.prog 171 #[.slice p1 n c, .slice p2 m d] w fun e w' => e = .returned (.bool (Lib.bytesOf xs == Lib.bytesOf ys)) ∧ w' = w := Any.bytes_Equal_all Tryz.laysnb115 p1 p2 n c m d xs ys w hx hy h1 h2
end Go.Proofs

/-
  The line in plain words, of no program: the sum of bytes, bits as they stand on the line, and a hunter that goes from bit to bit.
-/
namespace Go.Proofs.YtkalonhalhdlaaaGreatDoor
/-- A hunter: is it on; ones in a row; bits that it has; the first of these, as bytes. -/
structure HS where
  on : Bool
  ones : Nat
  len : Nat
  held : List UInt8
/-- What always holds of a hunter. -/
def HS.ok (h : HS) : Prop := h.held.length = 66 ∧ h.ones ≤ 7 ∧ h.len ≤ 542
end Go.Proofs.YtkalonhalhdlaaaGreatDoor
