/-
  A station hears a frame, and what came is taken: what it leaves, what it sends, and that it is less than it was.
-/
import Derived.Test.YtkalonhalhdlaaaDoorOFlow
namespace Go.Proofs.YtkalonhalhdlaaaDoor
open Go

structure Gn.free (n : Gn) : Prop where
  busy : n.busy = false
  came : n.came = []
def fstep (c : Cfg) (g : GF) (n : Gn) : Gn × List GF := ((gTaken c (gHear c g n).1).1, (gHear c g n).2 ++ (gTaken c (gHear c g n).1).2)
section
variable {c : Cfg} {n n' : Gn} {g : GF}
theorem Gn.free.held (hc : c.ok) (h : n.free) : gHeld c n = false := by
  have := hc.room1
  unfold gHeld
  rw [h.busy, h.came]
  simp
  omega
theorem gAck_all (h : n.ok c) : (gAck g.nr n).A = g.nr ∧ (gAck g.nr n).RV = n.RV ∧ (gAck g.nr n).peer = n.peer ∧ (gAck g.nr n).polling = n.polling ∧ (gAck g.nr n).VS = max n.VS g.nr ∧ (gAck g.nr n).busy = n.busy ∧ (gAck g.nr n).gv = n.gv ∧ (gAck g.nr n).came = n.came ∧ (gAck g.nr n).rejected = n.rejected ∧ (gAck g.nr n).VM = n.VM := by
  have := h.avs
  unfold gAck
  split
  · exact ⟨by omega, rfl, rfl, rfl, by omega, rfl, rfl, rfl, rfl, rfl⟩
  · exact ⟨rfl, rfl, rfl, rfl, rfl, rfl, rfl, rfl, rfl, rfl⟩
/-- Of a station that is not busy. -/
structure Hd (g : GF) (n : Gn) (r : Gn × List GF) : Prop where
  A : r.1.A = g.nr
  RV : r.1.RV = if g.k = 1 ∧ g.ns = n.RV then n.RV + 1 else n.RV
  peer : r.1.peer = if g.k = 1 then n.peer else g.k == 3
  pol : r.1.polling = true → n.polling = true ∧ ¬ (g.k ≠ 1 ∧ g.cmd = false ∧ g.p = true)
  VS : r.1.VS = g.nr ∨ (r.1.VS = max n.VS g.nr ∧ r.1.polling = n.polling)
  busy : r.1.busy = n.busy
  gv : r.1.gv = n.gv
  new : g.k = 1 → g.ns = n.RV → r.2 ≠ []
  ask : g.k ≠ 1 → g.cmd = true → tells r.2 ∧ ∀ x, lastp x r.2 = false
theorem gHear1_all (hc : c.ok) (h : n.ok c) (hf : n.free) (hg : g.ok) : Hd g n (gHear1 c g n) := by
  obtain ⟨a1, a2, a3, a4, a5, a6, a7, a8, _⟩ := gAck_all (g := g) h
  have hh : gHeld c (gAck g.nr n) = false := (gAck_held g.nr).trans (hf.held hc)
  unfold gHear1
  generalize gAck g.nr n = m at *
  by_cases hk : g.k = 1
  · rw [if_pos hk]
    unfold gHearMsg
    rw [hh, if_neg (by simp)]
    by_cases hn : g.ns = m.RV
    · rw [if_pos hn]
      exact ⟨a1, by rw [if_pos ⟨hk, hn.trans a2⟩]; show m.RV + 1 = _; rw [a2], by rw [if_pos hk]; exact a3, fun hp => ⟨a4 ▸ hp, fun x => x.1 hk⟩, .inr ⟨a5, a4⟩, a6, a7, fun _ _ => by simp, fun e => absurd hk e⟩
    · rw [if_neg hn]
      have hn' : ¬ g.ns = n.RV := fun e => hn (e.trans a2.symm)
      split
      · exact ⟨a1, by rw [if_neg (fun x => hn' x.2)]; exact a2, by rw [if_pos hk]; exact a3, fun hp => ⟨a4 ▸ hp, fun x => x.1 hk⟩, .inr ⟨a5, a4⟩, a6, a7, fun _ e => absurd e hn', fun e => absurd hk e⟩
      · exact ⟨a1, by rw [if_neg (fun x => hn' x.2)]; exact a2, by rw [if_pos hk]; exact a3, fun hp => ⟨a4 ▸ hp, fun x => x.1 hk⟩, .inr ⟨a5, a4⟩, a6, a7, fun _ e => absurd e hn', fun e => absurd hk e⟩
  · rw [if_neg hk]
    have hR : m.RV = if g.k = 1 ∧ g.ns = n.RV then n.RV + 1 else n.RV := by rw [if_neg (fun x => hk x.1)]; exact a2
    have hP : (g.k == 3) = if g.k = 1 then n.peer else g.k == 3 := by rw [if_neg hk]
    have hV : (if g.k = 4 then m.A else m.VS) = g.nr ∨ ((if g.k = 4 then m.A else m.VS) = max n.VS g.nr ∧ m.polling = n.polling) := by
      split
      · exact .inl a1
      · exact .inr ⟨a5, a4⟩
    unfold gHearReady
    dsimp only
    by_cases hp : g.p = false
    · rw [if_pos hp]
      exact ⟨a1, hR, hP, fun q => ⟨a4 ▸ q, fun x => by rw [hp] at x; exact absurd x.2.2 (by simp)⟩, hV, a6, a7, fun e => absurd e hk, fun _ e => by have := hg.pol hk e; rw [hp] at this; cases this⟩
    · rw [if_neg hp]
      by_cases hcm : g.cmd = true
      · rw [if_pos hcm]
        refine ⟨a1, hR, hP, fun q => ⟨a4 ▸ q, fun x => by rw [hcm] at x; exact absurd x.2.1 (by simp)⟩, hV, a6, a7, fun e => absurd e hk, fun _ _ => ⟨⟨_, List.mem_cons_self .., ?_, rfl, rfl⟩, fun x => ?_⟩⟩
        · show ¬ gReady c _ = 1
          have := gReady_23 (c := c) (n := { m with peer := g.k == 3, VS := if g.k = 4 then m.A else m.VS })
          omega
        · show (if gReady c _ = 1 then x else gReady c _ == 3) = false
          have e : gReady c { m with peer := g.k == 3, VS := if g.k = 4 then m.A else m.VS } = 2 := by
            unfold gReady
            have : gHeld c { m with peer := g.k == 3, VS := if g.k = 4 then m.A else m.VS } = false := hh
            rw [this]
            rfl
          rw [e]
          rfl
      · rw [if_neg hcm]
        by_cases hpo : m.polling = true
        · rw [if_pos hpo]
          exact ⟨a1, hR, hP, fun q => absurd q (by show ¬ false = true; simp), .inl a1, a6, a7, fun e => absurd e hk, fun _ e => absurd e hcm⟩
        · rw [if_neg hpo]
          exact ⟨a1, hR, hP, fun q => absurd q hpo, hV, a6, a7, fun e => absurd e hk, fun _ e => absurd e hcm⟩

theorem gPump_keeps2 : (gPump c n).1.polling = n.polling ∧ (gPump c n).1.peer = n.peer ∧ (gPump c n).1.busy = n.busy ∧ (gPump c n).1.rejected = n.rejected := by
  unfold gPump
  split
  · exact ⟨rfl, rfl, rfl, rfl⟩
  · exact ⟨gTimer_polling, gTimer_peer, gTimer_busy, gTimer_rejected⟩
theorem fstep_step (h : n.ok c) (h1 : n.A ≤ g.nr) (h2 : g.nr ≤ n.VM) : Step c n (fstep c g n).1 (fstep c g n).2 := by
  obtain ⟨st, _, _⟩ := gHear_step h h1 h2
  exact st.trans (gTaken_step st.ok) rfl rfl
theorem fstep_free (hf : n.free) : (fstep c g n).1.free := by
  refine ⟨?_, rfl⟩
  show (gPump c (gHear1 c g n).1).1.busy = false
  rw [gPump_keeps2.2.2.1, ← hf.busy]
  have e : (gAck g.nr n).busy = n.busy := by unfold gAck; split <;> rfl
  unfold gHear1
  rw [← e]
  generalize gAck g.nr n = m
  unfold gHearMsg gHearReady
  dsimp only
  repeat' (first | rfl | split)
theorem fstep_si (hc : c.ok) (h : n.ok c) (hs : n.si c) (h1 : n.A ≤ g.nr) (h2 : g.nr ≤ n.VM) : (fstep c g n).1.si c := gTaken_si (gHear_si hc h hs h1 h2)
theorem fstep_lastp (hc : c.ok) (hf : n.free) : (∀ x, lastp x (fstep c g n).2 = false) ∨ ∀ x, lastp x (fstep c g n).2 = x := by
  have a : Ann c n (fstep c g n).1 (fstep c g n).2 := (gHear_ann g).trans gTaken_ann
  have hh := (fstep_free (c := c) (g := g) hf).held hc
  rcases a with a | ⟨a, _⟩
  · exact .inl fun x => (a x).trans hh
  · exact .inr a
/-- The same of the whole step. -/
theorem fstep_all (hc : c.ok) (h : n.ok c) (hf : n.free) (hg : g.ok) : (fstep c g n).1.A = g.nr ∧ ((fstep c g n).1.RV = if g.k = 1 ∧ g.ns = n.RV then n.RV + 1 else n.RV) ∧ ((fstep c g n).1.peer = if g.k = 1 then n.peer else g.k == 3) ∧ ((fstep c g n).1.polling = true → n.polling = true ∧ ¬ (g.k ≠ 1 ∧ g.cmd = false ∧ g.p = true)) ∧ (g.k = 1 → g.ns = n.RV → (fstep c g n).2 ≠ []) ∧ (g.k ≠ 1 → g.cmd = true → tells (fstep c g n).2 ∧ ∀ x, lastp x (fstep c g n).2 = false) ∧ (fstep c g n).1.gv = n.gv := by
  have H := gHear1_all hc h hf hg
  obtain ⟨k1, k2, k3, k4⟩ := gPump_keeps (c := c) (n := (gHear1 c g n).1)
  obtain ⟨j1, j2, j3, j4⟩ := gPump_keeps2 (c := c) (n := (gHear1 c g n).1)
  refine ⟨k1.trans H.A, k2.trans H.RV, j2.trans H.peer, fun hp => H.pol (j1 ▸ hp), fun e1 e2 => ?_, fun e1 e2 => ?_, k4.trans H.gv⟩
  · have := H.new e1 e2
    show ((gHear1 c g n).2 ++ _) ++ _ ≠ []
    simp [this]
  · obtain ⟨⟨x, x1, x2⟩, y⟩ := H.ask e1 e2
    refine ⟨⟨x, List.mem_append_left _ (List.mem_append_left _ x1), x2⟩, ?_⟩
    rcases fstep_lastp (c := c) (g := g) hc hf with z | z
    · exact z
    · exfalso
      have e : ∀ x, lastp x (fstep c g n).2 = lastp (lastp x (gHear1 c g n).2) ((gPump c (gHear1 c g n).1).2 ++ (gTaken c (gHear c g n).1).2) := by
        intro x
        show lastp x (((gHear1 c g n).2 ++ _) ++ _) = _
        rw [List.append_assoc, lastp_append]
      have t1 := e true
      have t2 := e false
      rw [z, y] at t1
      rw [z, y] at t2
      rw [← t1] at t2
      cases t2
/-- What is sent reaches as far as was sent. -/
theorem fstep_reach (hc : c.ok) (h : n.ok c) (hf : n.free) (hg : g.ok) (h1 : n.A ≤ g.nr) (h2 : g.nr ≤ n.VM) (s : Nat) (hs : g.nr ≤ s) (hv : n.polling = true ∨ n.VS ≤ s) : (fstep c g n).1.polling = true ∨ (fstep c g n).1.VS ≤ reach s (fstep c g n).2 := by
  have H := gHear1_all hc h hf hg
  have hmid := (gHear1_step h h1 h2).1.ok
  have e2 : (fstep c g n).2 = ((gHear1 c g n).2 ++ (gPump c (gHear1 c g n).1).2) ++ (gTaken c (gHear c g n).1).2 := rfl
  have e1 : (fstep c g n).1.polling = (gHear1 c g n).1.polling := gPump_keeps2.1
  by_cases hp : (gHear1 c g n).1.polling = true
  · exact .inl (e1.trans hp)
  · right
    have hVS : (gHear1 c g n).1.VS ≤ s := by
      rcases H.VS with e | ⟨e, e'⟩
      · omega
      · rcases hv with hv | hv
        · exact absurd (e'.trans hv) hp
        · omega
    have e3 : (fstep c g n).1.VS = gTo c (gHear1 c g n).1 := by
      show (gPump c (gHear1 c g n).1).1.VS = _
      unfold gPump
      rw [if_neg hp]
      exact gTimer_VS
    have e4 : (gPump c (gHear1 c g n).1).2 = run (gHear1 c g n).1.gv (gHear1 c g n).1.RV (gHear1 c g n).1.VS (gTo c (gHear1 c g n).1) := by
      unfold gPump
      rw [if_neg hp]
    rw [e3, e2, reach_append, reach_append, e4]
    refine Nat.le_trans ?_ (le_reach _ _)
    obtain ⟨d, hd⟩ := Nat.exists_eq_add_of_le (gTo_le hmid).1
    rw [hd]
    exact reach_run _ _ d _ _ (Nat.le_trans hVS (le_reach _ _))

/-- How much is to come of it: what is to be sent, what is to be received, what is on its way. -/
def wtG (e f : Nat) (g : GF) : Nat := if g.k = 1 then 2 else if g.k = 4 then 31 else if g.cmd then e else if g.p then f else 1
def wtL (e f : Nat) : List GF → Nat
  | [] => 0
  | g :: L => wtG e f g + wtL e f L
def sp (b : Nat) (n : Gn) : Nat := 2 * (n.gv.length - n.VS) + (if n.polling then b else 0)
def rp (u v N : Nat) (n : Gn) : Nat := u * (N - n.RV) + (if n.rejected then 0 else v)
theorem wtL_append (e f : Nat) (L M : List GF) : wtL e f (L ++ M) = wtL e f L + wtL e f M := by
  induction L with
  | nil => simp [wtL]
  | cons g L ih => show wtG e f g + wtL e f (L ++ M) = wtG e f g + wtL e f L + wtL e f M; rw [ih]; omega
theorem wtL_run (e f : Nat) (gv : List Msg) (R : Nat) : ∀ d a, wtL e f (run gv R a (a + d)) = 2 * d := by
  intro d
  induction d with
  | zero => intro a; rw [run_nil gv R (show a + 0 ≤ a by omega)]; rfl
  | succ d ih =>
    intro a
    rw [run_cons gv R (show a < a + (d + 1) by omega)]
    have := ih (a + 1)
    rw [show a + 1 + d = a + (d + 1) by omega] at this
    show 2 + wtL e f _ = _
    rw [this]
    omega
theorem gPump_pot (h : n.ok c) (b e f : Nat) : sp b (gPump c n).1 + wtL e f (gPump c n).2 = sp b n := by
  unfold gPump
  split
  · rfl
  · unfold sp
    rw [gTimer_gv, gTimer_VS, gTimer_polling]
    obtain ⟨t1, t2, _⟩ := gTo_le h
    obtain ⟨d, hd⟩ := Nat.exists_eq_add_of_le t1
    show 2 * (n.gv.length - gTo c n) + (if n.polling then b else 0) + wtL e f (run n.gv n.RV n.VS (gTo c n)) = _
    rw [hd, wtL_run]
    omega
theorem gPump_rp (u v N : Nat) : rp u v N (gPump c n).1 = rp u v N n := by
  unfold rp
  rw [gPump_keeps.2.1, gPump_keeps2.2.2.2]
theorem wt_ans (e : Nat) (f : Nat) (m : Gn) : wtL e f [gAns c false m] = 1 ∧ wtL e f [gAns c true m] = f := by
  have := gReady_23 (c := c) (n := m)
  have a1 : ¬ gReady c m = 1 := by omega
  have a4 : ¬ gReady c m = 4 := by omega
  refine ⟨?_, ?_⟩
  · show (if gReady c m = 1 then 2 else if gReady c m = 4 then 31 else if false = true then e else if false = true then f else 1) + 0 = 1
    rw [if_neg a1, if_neg a4]; simp
  · show (if gReady c m = 1 then 2 else if gReady c m = 4 then 31 else if false = true then e else if true = true then f else 1) + 0 = f
    rw [if_neg a1, if_neg a4]; simp
theorem gChange_wt (e f : Nat) (was : Bool) (m : Gn) : wtL e f (gChange c was m) ≤ 1 ∧ (gHeld c m = was → wtL e f (gChange c was m) = 0) := by
  unfold gChange
  split
  · rename_i hh
    exact ⟨by rw [(wt_ans e f m).1]; exact Nat.le_refl _, fun x => absurd x hh⟩
  · exact ⟨Nat.zero_le _, fun _ => rfl⟩
end
end Go.Proofs.YtkalonhalhdlaaaDoor
