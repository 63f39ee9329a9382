/-
  Nothing is lost any more: what holds of two stations then, and that it ends.
-/
import Derived.Test.YtkalonhalhdlaaaDoorOGhosts
namespace Go.Proofs.YtkalonhalhdlaaaDoor
open Go

/-- How far what comes reaches, in order. -/
def reach (r : Nat) : List GF → Nat
  | [] => r
  | g :: L => reach (if g.k = 1 ∧ g.ns = r then r + 1 else r) L
/-- Is the other one busy, once all of this is heard? -/
def lastp (b : Bool) : List GF → Bool
  | [] => b
  | g :: L => lastp (if g.k = 1 then b else g.k == 3) L
def lastn (a : Nat) : List GF → Nat
  | [] => a
  | g :: L => lastn g.nr L
def asks (L : List GF) : Prop := ∃ g ∈ L, g.k ≠ 1 ∧ g.cmd = true
def tells (L : List GF) : Prop := ∃ g ∈ L, g.k ≠ 1 ∧ g.cmd = false ∧ g.p = true

theorem reach_append (L M : List GF) : ∀ r, reach r (L ++ M) = reach (reach r L) M := by
  induction L with
  | nil => intro r; rfl
  | cons g L ih => intro r; exact ih _
theorem lastp_append (L M : List GF) : ∀ b, lastp b (L ++ M) = lastp (lastp b L) M := by
  induction L with
  | nil => intro r; rfl
  | cons g L ih => intro r; exact ih _
theorem lastn_append (L M : List GF) : ∀ b, lastn b (L ++ M) = lastn (lastn b L) M := by
  induction L with
  | nil => intro r; rfl
  | cons g L ih => intro r; exact ih _
theorem le_reach (L : List GF) : ∀ r, r ≤ reach r L := by
  induction L with
  | nil => intro r; exact Nat.le_refl _
  | cons g L ih =>
    intro r
    refine Nat.le_trans ?_ (ih _)
    split <;> omega
theorem reach_mono (L : List GF) : ∀ r s, r ≤ s → reach r L ≤ reach s L := by
  induction L with
  | nil => intro r s h; exact h
  | cons g L ih =>
    intro r s h
    refine ih _ _ ?_
    by_cases h1 : g.k = 1
    · simp only [h1, true_and]
      split <;> split <;> omega
    · simp only [h1, false_and, if_false]
      exact h
theorem reach_run (gv : List Msg) (R : Nat) : ∀ (d a s : Nat), a ≤ s → a + d ≤ reach s (run gv R a (a + d)) := by
  intro d
  induction d with
  | zero => intro a s h; exact Nat.le_trans h (le_reach _ _)
  | succ d ih =>
    intro a s h
    rw [run_cons gv R (show a < a + (d + 1) by omega)]
    show a + (d + 1) ≤ reach (if (gMsg gv a R).k = 1 ∧ (gMsg gv a R).ns = s then s + 1 else s) _
    have := ih (a + 1) (if (gMsg gv a R).k = 1 ∧ (gMsg gv a R).ns = s then s + 1 else s) (by
      by_cases e : a = s
      · rw [if_pos ⟨rfl, e⟩]; omega
      · rw [if_neg (fun x => e x.2)]; omega)
    rw [show a + 1 + d = a + (d + 1) by omega] at this
    exact this
theorem lastp_run (gv : List Msg) (R : Nat) : ∀ (d a : Nat) (b : Bool), lastp b (run gv R a (a + d)) = b := by
  intro d
  induction d with
  | zero => intro a b; rw [run_nil gv R (show a + 0 ≤ a by omega)]; rfl
  | succ d ih =>
    intro a b
    rw [run_cons gv R (show a < a + (d + 1) by omega)]
    have := ih (a + 1) b
    rw [show a + 1 + d = a + (d + 1) by omega] at this
    exact this
theorem lastp_run' (gv : List Msg) (R a b : Nat) (x : Bool) : lastp x (run gv R a b) = x := by
  by_cases h : a ≤ b
  · obtain ⟨d, rfl⟩ := Nat.exists_eq_add_of_le h
    exact lastp_run gv R d a x
  · rw [run_nil gv R (by omega)]; rfl
theorem lastn_all {R : Nat} : ∀ (L : List GF) (a : Nat), L ≠ [] → (∀ g ∈ L, g.nr = R) → lastn a L = R := by
  intro L
  induction L with
  | nil => intro a h; exact absurd rfl h
  | cons g L ih =>
    intro a _ h
    cases L with
    | nil => exact h g (List.mem_cons_self ..)
    | cons g' L' => exact ih g.nr (by simp) (fun x hx => h x (List.mem_cons_of_mem _ hx))
/-- Either it says nothing of it, or one thing. -/
theorem lastp_cases (L : List GF) : (∀ x, lastp x L = x) ∨ ∃ b, ∀ x, lastp x L = b := by
  induction L with
  | nil => exact .inl fun _ => rfl
  | cons g L ih =>
    rcases ih with ih | ⟨b, ih⟩
    · by_cases h : g.k = 1
      · left
        intro x
        show lastp (if g.k = 1 then x else _) L = x
        rw [if_pos h]; exact ih x
      · right
        refine ⟨g.k == 3, fun x => ?_⟩
        show lastp (if g.k = 1 then x else _) L = _
        rw [if_neg h]; exact ih _
    · exact .inr ⟨b, fun x => ih _⟩

/-- What always holds of a station: its timer runs while it waits; it has sent what it may. -/
structure Gn.si (c : Cfg) (n : Gn) : Prop where
  tm : (n.A < n.VM ∨ n.peer = true ∨ n.polling = true) → 0 < n.timer
  pu : n.polling = false → n.peer = false → n.VS = min n.gv.length (n.A + c.win)
  q20 : n.gv.length ≤ n.A + 20
  tmx : n.timer ≤ c.tim
/-- What a call says of being busy is so. -/
def Ann (c : Cfg) (n n' : Gn) (fs : List GF) : Prop := (∀ x, lastp x fs = gHeld c n') ∨ ((∀ x, lastp x fs = x) ∧ gHeld c n' = gHeld c n)
section
variable {c : Cfg} {n n' n'' : Gn} {fs fs' : List GF}
theorem Ann.refl : Ann c n n [] := .inr ⟨fun _ => rfl, rfl⟩
theorem Ann.trans (h : Ann c n n' fs) (k : Ann c n' n'' fs') : Ann c n n'' (fs ++ fs') := by
  rcases k with k | ⟨k1, k2⟩
  · exact .inl fun x => by rw [lastp_append]; exact k _
  · rcases h with h | ⟨h1, h2⟩
    · exact .inl fun x => by rw [lastp_append, k1, h, k2]
    · exact .inr ⟨fun x => by rw [lastp_append, k1, h1], k2.trans h2⟩
theorem Ann.ans (p : Bool) (hh : gHeld c n' = gHeld c n'') : Ann c n n'' [gAns c p n'] := by
  left
  intro x
  show (if gReady c n' = 1 then x else gReady c n' == 3) = _
  rw [← hh]
  unfold gReady
  cases gHeld c n' <;> simp
theorem gPump_held : gHeld c (gPump c n).1 = gHeld c n := by
  unfold gPump
  split
  · rfl
  · unfold gHeld
    rw [gTimer_came, gTimer_busy]
theorem gPump_ann : Ann c n (gPump c n).1 (gPump c n).2 := by
  refine .inr ⟨fun x => ?_, gPump_held⟩
  unfold gPump
  split
  · rfl
  · exact lastp_run' _ _ _ _ _
theorem gAck_held (nr : Nat) : gHeld c (gAck nr n) = gHeld c n := by unfold gAck; split <;> rfl
theorem gHear1_ann (g : GF) : Ann c n (gHear1 c g n).1 (gHear1 c g n).2 := by
  have h0 : Ann c n (gAck g.nr n) [] := .inr ⟨fun _ => rfl, gAck_held _⟩
  have : Ann c (gAck g.nr n) (gHear1 c g n).1 (gHear1 c g n).2 := by
    unfold gHear1
    generalize gAck g.nr n = m at *
    clear h0
    split
    · unfold gHearMsg
      split
      · exact Ann.ans false rfl
      · rename_i hh
        split
        · exact Ann.ans false rfl
        · split
          · left
            intro x
            show (if 4 = 1 then x else (4 : Nat) == 3) = gHeld c m
            have : gHeld c m = false := by simpa using hh
            rw [this]
            rfl
          · exact Ann.refl
    · unfold gHearReady
      dsimp only
      split
      · exact .inr ⟨fun _ => rfl, rfl⟩
      · split
        · exact Ann.ans true rfl
        · split
          · exact .inr ⟨fun _ => rfl, rfl⟩
          · exact .inr ⟨fun _ => rfl, rfl⟩
  exact h0.trans this
theorem gHear_ann (g : GF) : Ann c n (gHear c g n).1 (gHear c g n).2 := (gHear1_ann g).trans gPump_ann
theorem gChange_ann {was : Bool} (hw : was = gHeld c n) : Ann c n n' (gChange c was n') := by
  unfold gChange
  split
  · exact Ann.ans false rfl
  · rename_i e
    refine .inr ⟨fun _ => rfl, ?_⟩
    rw [← hw]
    simpa using e
theorem gBusy_ann (on : Bool) : Ann c n (gBusy c on n).1 (gBusy c on n).2 := gChange_ann rfl
theorem gTaken_ann : Ann c n (gTaken c n).1 (gTaken c n).2 := gChange_ann rfl
theorem gSend_ann (m : Msg) : Ann c n (gSend c m n).1 (gSend c m n).2 := by
  unfold gSend
  split
  · exact Ann.refl
  · rcases gPump_ann (c := c) (n := { n with gv := n.gv ++ [m] }) with h | ⟨h1, h2⟩
    · exact .inl h
    · exact .inr ⟨h1, h2⟩
theorem gTick_ann {r : Gn × List GF} (hr : gTick c n = some r) : Ann c n r.1 r.2 := by
  unfold gTick at hr
  split at hr
  · cases hr; exact Ann.refl
  · split at hr
    · split at hr
      · cases hr
      · cases hr
        left
        intro x
        show (if gReady c n = 1 then x else gReady c n == 3) = gHeld c n
        unfold gReady
        cases gHeld c n <;> simp
    · cases hr; exact .inr ⟨fun _ => rfl, rfl⟩

theorem gPump_si (hc : c.ok) (h1 : n.polling = true → 0 < n.timer) (h2 : n.gv.length ≤ n.A + 20) (h3 : n.timer ≤ c.tim) : (gPump c n).1.si c := by
  have ht := hc.tim1
  unfold gPump
  split
  · rename_i hp
    exact ⟨fun _ => h1 hp, fun e => absurd hp (by rw [e]; simp), h2, h3⟩
  · rename_i hp
    have hp' : n.polling = false := by simpa using hp
    refine ⟨fun hh => ?_, fun _ e2 => ?_, ?_, ?_⟩
    · rw [gTimer_A, gTimer_VM, gTimer_peer, gTimer_polling] at hh
      unfold gTimer
      split
      · rename_i e
        exfalso
        rcases hh with hh | hh | hh
        · have : n.A = max n.VM (gTo c n) := e.1
          have hh' : n.A < max n.VM (gTo c n) := hh
          omega
        · have e2 : n.peer = false := e.2
          have hh' : n.peer = true := hh
          rw [e2] at hh'; cases hh'
        · have hh' : n.polling = true := hh
          rw [hp'] at hh'; cases hh'
      · split
        · show 0 < c.tim; omega
        · rename_i e
          exact Nat.pos_of_ne_zero e
    · rw [gTimer_peer] at e2
      rw [gTimer_VS, gTimer_gv, gTimer_A]
      show gTo c n = min n.gv.length (n.A + c.win)
      unfold gTo
      rw [if_neg]
      have e2' : n.peer = false := e2
      rw [e2']; simp
    · rw [gTimer_gv, gTimer_A]; exact h2
    · unfold gTimer
      split
      · exact Nat.zero_le _
      · split
        · exact Nat.le_refl _
        · exact h3
theorem gHear_si (hc : c.ok) (h : n.ok c) (hs : n.si c) {g : GF} (h1 : n.A ≤ g.nr) (h2 : g.nr ≤ n.VM) : (gHear c g n).1.si c := by
  obtain ⟨_, hA, _⟩ := gHear1_step h h1 h2
  have e2 : (gAck g.nr n).gv = n.gv ∧ (n.polling = true → (gAck g.nr n).timer = n.timer) ∧ (gAck g.nr n).polling = n.polling ∧ (gAck g.nr n).timer ≤ c.tim := by
    have := hs.tmx
    unfold gAck
    split
    · exact ⟨rfl, fun _ => rfl, rfl, this⟩
    · refine ⟨rfl, fun hp => ?_, rfl, ?_⟩
      · show (if n.polling then n.timer else 0) = _
        rw [if_pos hp]
      · show (if n.polling then n.timer else 0) ≤ _
        split <;> omega
  have e3 : (gHear1 c g n).1.gv = n.gv ∧ ((gHear1 c g n).1.polling = true → n.polling = true ∧ (gHear1 c g n).1.timer = (gAck g.nr n).timer) ∧ (gHear1 c g n).1.timer ≤ c.tim := by
    unfold gHear1
    generalize gAck g.nr n = m at *
    obtain ⟨a1, a2, a3, a4⟩ := e2
    split
    · unfold gHearMsg
      split
      · exact ⟨a1, fun hp => ⟨a3 ▸ hp, rfl⟩, a4⟩
      · split
        · exact ⟨a1, fun hp => ⟨a3 ▸ hp, rfl⟩, a4⟩
        · split
          · exact ⟨a1, fun hp => ⟨a3 ▸ hp, rfl⟩, a4⟩
          · exact ⟨a1, fun hp => ⟨a3 ▸ hp, rfl⟩, a4⟩
    · unfold gHearReady
      dsimp only
      split
      · exact ⟨a1, fun hp => ⟨a3 ▸ hp, rfl⟩, a4⟩
      · split
        · exact ⟨a1, fun hp => ⟨a3 ▸ hp, rfl⟩, a4⟩
        · split
          · exact ⟨a1, fun hp => absurd hp (by show ¬ false = true; simp), Nat.zero_le _⟩
          · exact ⟨a1, fun hp => ⟨a3 ▸ hp, rfl⟩, a4⟩
  obtain ⟨b1, b2, b3⟩ := e3
  refine gPump_si hc (fun hp => ?_) ?_ b3
  · obtain ⟨q1, q2⟩ := b2 hp
    rw [q2, e2.2.1 q1]
    exact hs.tm (.inr (.inr q1))
  · have := hs.q20
    rw [b1, hA]
    omega
theorem gTick_si (hc : c.ok) (hs : n.si c) {r : Gn × List GF} (hr : gTick c n = some r) : r.1.si c := by
  have ht := hc.tim1
  have hx := hs.tmx
  unfold gTick at hr
  split at hr
  · cases hr; exact hs
  · split at hr
    · split at hr
      · cases hr
      · cases hr
        exact ⟨fun _ => by show 0 < c.tim; omega, fun e => absurd e (by show ¬ true = false; simp), hs.q20, Nat.le_refl _⟩
    · cases hr
      exact ⟨fun _ => by show 0 < n.timer - 1; omega, hs.pu, hs.q20, by show n.timer - 1 ≤ _; omega⟩
theorem gSend_si (hc : c.ok) (hs : n.si c) (m : Msg) : (gSend c m n).1.si c := by
  unfold gSend
  split
  · exact hs
  · rename_i e
    refine gPump_si hc (fun hp => hs.tm (.inr (.inr hp))) ?_ hs.tmx
    show (n.gv ++ [m]).length ≤ n.A + 20
    rw [List.length_append]
    have : [m].length = 1 := rfl
    omega
theorem gBusy_si (hs : n.si c) (on : Bool) : (gBusy c on n).1.si c := ⟨hs.tm, hs.pu, hs.q20, hs.tmx⟩
theorem gTaken_si (hs : n.si c) : (gTaken c n).1.si c := ⟨hs.tm, hs.pu, hs.q20, hs.tmx⟩
end
end Go.Proofs.YtkalonhalhdlaaaDoor
