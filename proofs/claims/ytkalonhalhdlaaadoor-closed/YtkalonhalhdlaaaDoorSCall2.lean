/-
  What one call of Connect, Disconnect, Close, Out, Events does.
-/
import Derived.Test.YtkalonhalhdlaaaDoorSCall1
namespace Go.Proofs.YtkalonhalhdlaaaDoor
open Go.RowKit

section
variable {w W : World} {own : Nat → Nat} {i b : Nat} {c : Cfg} {s : St} {cl : Bool} {ch : Nat} {q cm o ev : Value} {qe ce oe : List Value}

set_option maxHeartbeats 4000000 in
set_option maxRecDepth 100000 in
theorem connect_any (h : SAt w own i b c s cl ch q cm o ev qe ce oe) (hl : s.out.length + 18 ≤ 2199023255552) :
    Calls Tryd.prog 17 #[.pointer (some ⟨b, 0, none⟩)] w fun e w' => Ans (if cl then 8 else (connectS c s).1) i b c (if cl then s else (connectS c s).2) cl own w e w' := by
  have hlt := h.lt
  have k1 := isClosed_any h
  cases cl with
  | true =>
    have H := hide h
    clear h
    go_enter Tryd.func17, Tryd.ntmps17
    go_wp2_with fail
    refine k1.mono ?_
    rintro e w1 ⟨rfl, hw1⟩
    subst hw1
    clear k1
    go_wp2
    go_ret
    exact (unhide H).ans 8 (Below.refl _ _)
  | false =>
    have c7 := h.c_state
    have hs4 := h.sok.state
    have K2 := hide (call_any h (by omega))
    have H := hide h
    clear h
    have hst : s.state = 0 ∨ s.state = 1 ∨ s.state = 2 ∨ s.state = 3 ∨ s.state = 4 := by omega
    rcases hst with e | e | e | e | e
    · have HD : Hid (connectS c s = (0, callS c s)) := hide (by unfold connectS; simp [e])
      rw [e] at c7
      clear e
      go_enter Tryd.func17, Tryd.ntmps17
      go_wp2_with fail
      refine k1.mono ?_
      rintro e w1 ⟨rfl, hw1⟩
      subst hw1
      clear k1
      go_wp2_with fail
      refine (unhide K2).mono ?_
      rintro e w2 ⟨rfl, own2, h3, u3⟩
      have HR := hide (And.intro h3 u3)
      clear h3 u3 K2
      go_wp2
      go_ret
      dsimp only
      rw [unhide HD]
      exact ⟨rfl, _, (unhide HR).1, (unhide HR).2⟩
    · have HD : Hid (connectS c s = (6, s)) := hide (by unfold connectS; simp [e])
      rw [e] at c7
      clear e K2
      go_enter Tryd.func17, Tryd.ntmps17
      go_wp2_with fail
      refine k1.mono ?_
      rintro e w1 ⟨rfl, hw1⟩
      subst hw1
      clear k1
      go_wp2
      go_ret
      dsimp only
      rw [unhide HD]
      exact (unhide H).ans 6 (Below.refl _ _)
    · have HD : Hid (connectS c s = (6, s)) := hide (by unfold connectS; simp [e])
      rw [e] at c7
      clear e K2
      go_enter Tryd.func17, Tryd.ntmps17
      go_wp2_with fail
      refine k1.mono ?_
      rintro e w1 ⟨rfl, hw1⟩
      subst hw1
      clear k1
      go_wp2
      go_ret
      dsimp only
      rw [unhide HD]
      exact (unhide H).ans 6 (Below.refl _ _)
    · have HD : Hid (connectS c s = (6, s)) := hide (by unfold connectS; simp [e])
      rw [e] at c7
      clear e K2
      go_enter Tryd.func17, Tryd.ntmps17
      go_wp2_with fail
      refine k1.mono ?_
      rintro e w1 ⟨rfl, hw1⟩
      subst hw1
      clear k1
      go_wp2
      go_ret
      dsimp only
      rw [unhide HD]
      exact (unhide H).ans 6 (Below.refl _ _)
    · have HD : Hid (connectS c s = (0, callS c s)) := hide (by unfold connectS; simp [e])
      rw [e] at c7
      clear e
      go_enter Tryd.func17, Tryd.ntmps17
      go_wp2_with fail
      refine k1.mono ?_
      rintro e w1 ⟨rfl, hw1⟩
      subst hw1
      clear k1
      go_wp2_with fail
      refine (unhide K2).mono ?_
      rintro e w2 ⟨rfl, own2, h3, u3⟩
      have HR := hide (And.intro h3 u3)
      clear h3 u3 K2
      go_wp2
      go_ret
      dsimp only
      rw [unhide HD]
      exact ⟨rfl, _, (unhide HR).1, (unhide HR).2⟩

set_option maxHeartbeats 4000000 in
set_option maxRecDepth 100000 in
theorem leave_any (h : SAt w own i b c s cl ch q cm o ev qe ce oe) (hl : s.out.length + 18 ≤ 2199023255552) :
    Calls Tryd.prog 18 #[.pointer (some ⟨b, 0, none⟩)] w fun e w' => Ans (if cl then 8 else (leaveS c s).1) i b c (if cl then s else (leaveS c s).2) cl own w e w' := by
  have hlt := h.lt
  have k1 := isClosed_any h
  cases cl with
  | true =>
    have H := hide h
    clear h
    go_enter Tryd.func18, Tryd.ntmps18
    go_wp2_with fail
    refine k1.mono ?_
    rintro e w1 ⟨rfl, hw1⟩
    subst hw1
    clear k1
    go_wp2
    go_ret
    exact (unhide H).ans 8 (Below.refl _ _)
  | false =>
    have c7 := h.c_state
    have hs4 := h.sok.state
    have K2 := hide (ask_any h 3 6 (.inr rfl) (by omega))
    have H := hide h
    clear h
    have hst : s.state = 0 ∨ s.state = 1 ∨ s.state = 2 ∨ s.state = 3 ∨ s.state = 4 := by omega
    rcases hst with e | e | e | e | e
    · have HD : Hid (leaveS c s = (6, s)) := hide (by unfold leaveS; simp [e])
      rw [e] at c7
      clear e K2
      go_enter Tryd.func18, Tryd.ntmps18
      go_wp2_with fail
      refine k1.mono ?_
      rintro e w1 ⟨rfl, hw1⟩
      subst hw1
      clear k1
      go_wp2
      go_ret
      dsimp only
      rw [unhide HD]
      exact (unhide H).ans 6 (Below.refl _ _)
    · have HD : Hid (leaveS c s = (0, ask c 3 6 s)) := hide (by unfold leaveS; simp [e])
      rw [e] at c7
      clear e
      go_enter Tryd.func18, Tryd.ntmps18
      go_wp2_with fail
      refine k1.mono ?_
      rintro e w1 ⟨rfl, hw1⟩
      subst hw1
      clear k1
      go_wp2_with fail
      refine (unhide K2).mono ?_
      rintro e w2 ⟨rfl, own2, h3, u3⟩
      have HR := hide (And.intro h3 u3)
      clear h3 u3 K2
      go_wp2
      go_ret
      dsimp only
      rw [unhide HD]
      exact ⟨rfl, _, (unhide HR).1, (unhide HR).2⟩
    · have HD : Hid (leaveS c s = (0, ask c 3 6 s)) := hide (by unfold leaveS; simp [e])
      rw [e] at c7
      clear e
      go_enter Tryd.func18, Tryd.ntmps18
      go_wp2_with fail
      refine k1.mono ?_
      rintro e w1 ⟨rfl, hw1⟩
      subst hw1
      clear k1
      go_wp2_with fail
      refine (unhide K2).mono ?_
      rintro e w2 ⟨rfl, own2, h3, u3⟩
      have HR := hide (And.intro h3 u3)
      clear h3 u3 K2
      go_wp2
      go_ret
      dsimp only
      rw [unhide HD]
      exact ⟨rfl, _, (unhide HR).1, (unhide HR).2⟩
    · have HD : Hid (leaveS c s = (6, s)) := hide (by unfold leaveS; simp [e])
      rw [e] at c7
      clear e K2
      go_enter Tryd.func18, Tryd.ntmps18
      go_wp2_with fail
      refine k1.mono ?_
      rintro e w1 ⟨rfl, hw1⟩
      subst hw1
      clear k1
      go_wp2
      go_ret
      dsimp only
      rw [unhide HD]
      exact (unhide H).ans 6 (Below.refl _ _)
    · have HD : Hid (leaveS c s = (0, ask c 3 6 s)) := hide (by unfold leaveS; simp [e])
      rw [e] at c7
      clear e
      go_enter Tryd.func18, Tryd.ntmps18
      go_wp2_with fail
      refine k1.mono ?_
      rintro e w1 ⟨rfl, hw1⟩
      subst hw1
      clear k1
      go_wp2_with fail
      refine (unhide K2).mono ?_
      rintro e w2 ⟨rfl, own2, h3, u3⟩
      have HR := hide (And.intro h3 u3)
      clear h3 u3 K2
      go_wp2
      go_ret
      dsimp only
      rw [unhide HD]
      exact ⟨rfl, _, (unhide HR).1, (unhide HR).2⟩

theorem SAt.shut (h : SAt w own i b c s false ch q cm o ev qe ce oe) : SAt { w with heap := w.heap.setIfInBounds ch (.chan 0 #[] true 0 0 false) } own i b c s true ch q cm o ev qe ce oe ∧ Upd i own own w { w with heap := w.heap.setIfInBounds ch (.chan 0 #[] true 0 0 false) } := by
  have hlc := (Array.getElem?_eq_some_iff.1 h.chan).1
  have hK : Keeps (· = ch) w { w with heap := w.heap.setIfInBounds ch (.chan 0 #[] true 0 0 false) } :=
    ⟨rfl, rfl, rfl, by simp, fun k _ hk => by simp only; rw [Array.getElem?_setIfInBounds_ne (fun e => hk e.symm)]⟩
  have hcb : b ≠ ch := fun e => by have := h.head; rw [e, h.chan] at this; simp at this
  have hne : ∀ p, p ≠ 0 → p < 5 → ∀ k, k = ch → own k ≠ tg i p := fun p hp hp5 k hk => by rw [hk, h.ownc]; exact tg_ne (by omega) hp5 (.inr (fun e => hp e.symm))
  refine ⟨⟨by rw [hK.block b h.lt hcb]; exact h.head, h.ownb, by simp [hlc], h.ownc, h.lq.keeps hK (hne 1 (by omega) (by omega)) (fun _ _ => rfl), h.lcm.keeps hK (hne 2 (by omega) (by omega)) (fun _ _ => rfl), h.lo.keeps hK (hne 3 (by omega) (by omega)) (fun _ _ => rfl), ownsRow_keepsB h.lev hK (fun k hb hX => hne 4 (by omega) (by omega) k hX (h.owne k hb)), h.owne, h.ctl.keeps hK h.pos (fun e => ?_), h.own0, fun k hs => h.new0 k (Nat.le_trans hK.size hs), h.cok, h.sok⟩, ⟨hK.mono (fun k hk => ⟨0, by omega, by rw [hk]; exact h.ownc⟩), fun _ _ => rfl⟩⟩
  have := h.ownc
  rw [← e, h.own0] at this
  exact tg_pos _ _ this.symm

set_option maxHeartbeats 4000000 in
set_option maxRecDepth 100000 in
theorem out_any (h : SAt w own i b c s cl ch q cm o ev qe ce oe) :
    Calls Tryd.prog 23 #[.pointer (some ⟨b, 0, none⟩)] w fun e w' => if cl then e = .returned (.tuple #[.slice none 0 0, .int .i64 (8 : Nat)]) ∧ w' = w else e = .returned (.tuple #[o, .int .i64 (0 : Nat)]) ∧ SAt w' own i b c { s with out := [] } cl ch q cm (.slice none 0 0) ev qe ce [] ∧ Lst w' own (tg i 3) o oe s.out ∧ Keeps (· = b) w w' := by
  have hlt := h.lt
  have k1 := isClosed_any h
  cases cl with
  | true =>
    have H := hide h
    clear h
    go_enter Tryd.func23, Tryd.ntmps23
    go_wp2_with fail
    refine k1.mono ?_
    rintro e w1 ⟨rfl, hw1⟩
    subst hw1
    clear k1
    go_wp2
    go_ret2
    exact ⟨rfl, rfl⟩
  | false =>
    have c20 := h.c_o
    have fz := h.fz
    obtain ⟨op, ocap, rfl, _, _⟩ := h.lo.slice
    have H := hide h
    clear h
    go_enter Tryd.func23, Tryd.ntmps23
    go_wp2_with fail
    refine k1.mono ?_
    rintro e w1 ⟨rfl, hw1⟩
    subst hw1
    clear k1
    go_wp2
    go_ret2
    have h := unhide H
    have hK : Keeps (· = b) w1 _ := (Keeps.refl _ w1).setB 20 (.slice none 0 0)
    exact ⟨rfl, h.wroteL hK ((h.hd.lo _).as { s with out := [] } rfl) Stays.same Stays.same Stays.gone (.inl ⟨rfl, rfl⟩) (h.sok.out []), h.lo.keeps hK (fun k hk => by rw [hk, h.ownb]; exact tg_ne (by omega) (by omega) (.inr (by omega))) (fun _ _ => rfl), hK⟩

set_option maxHeartbeats 4000000 in
set_option maxRecDepth 100000 in
theorem events_any (h : SAt w own i b c s cl ch q cm o ev qe ce oe) :
    Calls Tryd.prog 24 #[.pointer (some ⟨b, 0, none⟩)] w fun e w' => if cl then e = .returned (.tuple #[.slice none 0 0, .int .i64 (8 : Nat)]) ∧ w' = w else e = .returned (.tuple #[ev, .int .i64 (0 : Nat)]) ∧ SAt w' own i b c { s with events := [] } cl ch q cm o (.slice none 0 0) qe ce oe ∧ w'.ownsRow 0 3 1 ev s.events.length (s.events.map fun n => .int .i64 (n : Nat)) ∧ Keeps (· = b) w w' := by
  have hlt := h.lt
  have k1 := isClosed_any h
  cases cl with
  | true =>
    have H := hide h
    clear h
    go_enter Tryd.func24, Tryd.ntmps24
    go_wp2_with fail
    refine k1.mono ?_
    rintro e w1 ⟨rfl, hw1⟩
    subst hw1
    clear k1
    go_wp2
    go_ret2
    exact ⟨rfl, rfl⟩
  | false =>
    have c21 := h.c_ev
    have fz := h.fz
    obtain ⟨op, ocap, hoe⟩ := row_slice h.lev
    subst hoe
    have H := hide h
    clear h
    go_enter Tryd.func24, Tryd.ntmps24
    go_wp2_with fail
    refine k1.mono ?_
    rintro e w1 ⟨rfl, hw1⟩
    subst hw1
    clear k1
    go_wp2
    go_ret2
    have h := unhide H
    have hK : Keeps (· = b) w1 _ := (Keeps.refl _ w1).setB 21 (.slice none 0 0)
    exact ⟨rfl, h.wroteL hK ((h.hd.lev _).as { s with events := [] } rfl) Stays.same Stays.same Stays.same (.inr ⟨rfl, rfl⟩) (h.sok.events []), ownsRow_keepsB h.lev hK (fun k hk e => by have := h.owne k hk; rw [e, h.ownb] at this; exact tg_ne (by omega) (by omega) (.inr (by omega)) this), hK⟩

set_option maxHeartbeats 4000000 in
set_option maxRecDepth 100000 in
theorem close_any (h : SAt w own i b c s cl ch q cm o ev qe ce oe) :
    Calls Tryd.prog 16 #[.pointer (some ⟨b, 0, none⟩)] w fun e w' => if cl then e = .returned (.int .i64 (8 : Nat)) ∧ w' = w else e = .returned (.int .i64 (0 : Nat)) ∧ SAt w' own i b c s true ch q cm o ev qe ce oe ∧ Upd i own own w w' := by
  have hlt := h.lt
  have k1 := isClosed_any h
  cases cl with
  | true =>
    have H := hide h
    clear h
    go_enter Tryd.func16, Tryd.ntmps16
    go_wp2_with fail
    refine k1.mono ?_
    rintro e w1 ⟨rfl, hw1⟩
    subst hw1
    clear k1
    go_wp2
    go_ret
    exact ⟨rfl, rfl⟩
  | false =>
    have c6 := h.c_ch
    have hcl := fun ats ty => run_close_open (P := Tryd.prog) (w := w) ats ty h.chan
    have H := hide h
    clear h
    go_enter Tryd.func16, Tryd.ntmps16
    go_wp2_with fail
    refine k1.mono ?_
    rintro e w1 ⟨rfl, hw1⟩
    subst hw1
    clear k1
    go_wp2
    go_ret
    have h := unhide H
    exact ⟨rfl, h.shut⟩
end
end Go.Proofs.YtkalonhalhdlaaaDoor
