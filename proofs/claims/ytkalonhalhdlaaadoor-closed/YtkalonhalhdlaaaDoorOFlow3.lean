/-
  What a call adds to all that is to come.
-/
import Derived.Test.YtkalonhalhdlaaaDoorOFlow2
namespace Go.Proofs.YtkalonhalhdlaaaDoor
open Go

/-- Weights that go together. -/
structure Wts (b e f u v x k1 k2 : Nat) : Prop where
  p1 : f + k1 ≤ e + k2
  p2 : 30 + k1 ≤ b + f + k2
  p3 : v + x + k1 ≤ u + 1 + k2
  p4 : 29 + k1 ≤ v + k2
  p5 : k1 ≤ 1 + k2
  p6 : k1 ≤ f + k2
section
variable {c : Cfg} {n n' : Gn} {g : GF} {b e f u v x k1 k2 N : Nat}
theorem hear1_pot (W : Wts b e f u v x k1 k2) (hc : c.ok) (h : n.ok c) (hg : g.ok) (h1 : n.A ≤ g.nr) (h2 : g.nr ≤ n.VM) (hN : g.k = 1 → g.ns = n.RV → n.RV < N) :
    sp b (gHear1 c g n).1 + rp u v N (gHear1 c g n).1 + wtL e f (gHear1 c g n).2 + k1 + (if (gHear1 c g n).1.RV = n.RV then 0 else x) ≤ sp b n + rp u v N n + wtG e f g + k2 := by
  obtain ⟨p1, p2, p3, p4, p5, p6⟩ := W
  obtain ⟨a1, a2, _, a4, a5, _, a7, _, a9, a10⟩ := gAck_all (g := g) h
  have w1 := hc.win15
  have w2 := h.win
  have w3 := h.vsm
  have w4 := h.avs
  have hs : sp b (gAck g.nr n) ≤ sp b n := by unfold sp; rw [a4, a5, a7]; omega
  have hr : rp u v N (gAck g.nr n) = rp u v N n := by unfold rp; rw [a2, a9]
  have hva : (gAck g.nr n).VS ≤ (gAck g.nr n).A + 15 := by rw [a5, a1]; omega
  have hok := (gAck_step h h1 h2).1.ok
  rw [← hr]
  refine Nat.le_trans ?_ (show sp b (gAck g.nr n) + rp u v N (gAck g.nr n) + wtG e f g + k2 ≤ _ by omega)
  rw [← a2] at hN
  rw [← a2]
  unfold gHear1
  clear hr hs
  generalize gAck g.nr n = m at *
  by_cases hk : g.k = 1
  · rw [if_pos hk]
    have hw : wtG e f g = 2 := by unfold wtG; rw [if_pos hk]
    rw [hw]
    unfold gHearMsg
    split
    · rw [(wt_ans e f m).1]
      show sp b m + rp u v N m + 1 + k1 + (if m.RV = m.RV then 0 else x) ≤ _
      rw [if_pos rfl]
      omega
    · split
      · rename_i hn
        have hlt := hN hk hn
        rw [(wt_ans e f _).1]
        show sp b m + (u * (N - (m.RV + 1)) + v) + 1 + k1 + (if m.RV + 1 = m.RV then 0 else x) ≤ _
        rw [if_neg (by omega)]
        have e1 : rp u v N m = u * (N - (m.RV + 1)) + u + (if m.rejected then 0 else v) := by
          unfold rp
          rw [show N - m.RV = (N - (m.RV + 1)) + 1 by omega, Nat.mul_succ]
        rw [e1]
        omega
      · split
        · rename_i hj
          show sp b m + (u * (N - m.RV) + 0) + (31 + 0) + k1 + (if m.RV = m.RV then 0 else x) ≤ _
          rw [if_pos rfl]
          have e1 : rp u v N m = u * (N - m.RV) + v := by
            unfold rp
            rw [if_neg (by rw [hj]; simp)]
          rw [e1]
          omega
        · show sp b m + rp u v N m + 0 + k1 + (if m.RV = m.RV then 0 else x) ≤ _
          rw [if_pos rfl]
          omega
  · rw [if_neg hk]
    have hsv : ∀ (y : Nat) (po : Bool) (pe : Bool) (tm : Nat), sp b { m with VS := y, polling := po, peer := pe, timer := tm } = 2 * (m.gv.length - y) + (if po then b else 0) := fun _ _ _ _ => rfl
    have hrv : ∀ (y : Nat) (po : Bool) (pe : Bool) (tm : Nat), rp u v N { m with VS := y, polling := po, peer := pe, timer := tm } = rp u v N m := fun _ _ _ _ => rfl
    have hsm : sp b m = 2 * (m.gv.length - m.VS) + (if m.polling then b else 0) := rfl
    unfold gHearReady
    dsimp only
    by_cases hp : g.p = false
    · rw [if_pos hp]
      show sp b { m with VS := (if g.k = 4 then m.A else m.VS), polling := m.polling, peer := g.k == 3, timer := m.timer } + rp u v N { m with VS := (if g.k = 4 then m.A else m.VS), polling := m.polling, peer := g.k == 3, timer := m.timer } + 0 + k1 + (if m.RV = m.RV then 0 else x) ≤ _
      rw [if_pos rfl, hsv, hrv, hsm]
      by_cases h4 : g.k = 4
      · have hw : wtG e f g = 31 := by unfold wtG; rw [if_neg hk, if_pos h4]
        rw [hw, if_pos h4]
        omega
      · have hcm : g.cmd = false := by
          cases hh : g.cmd with
          | false => rfl
          | true => have := hg.pol hk hh; rw [hp] at this; cases this
        have hw : wtG e f g = 1 := by unfold wtG; rw [if_neg hk, if_neg h4, hcm, hp]; rfl
        rw [hw, if_neg h4]
        omega
    · rw [if_neg hp]
      have h4 : ¬ g.k = 4 := fun h4 => hp (hg.rej h4).2
      have hp' : g.p = true := by simpa using hp
      by_cases hcm : g.cmd = true
      · rw [if_pos hcm]
        have hw : wtG e f g = e := by unfold wtG; rw [if_neg hk, if_neg h4, if_pos hcm]
        rw [(wt_ans e f _).2, hw]
        show sp b { m with VS := (if g.k = 4 then m.A else m.VS), polling := m.polling, peer := g.k == 3, timer := m.timer } + rp u v N { m with VS := (if g.k = 4 then m.A else m.VS), polling := m.polling, peer := g.k == 3, timer := m.timer } + f + k1 + (if m.RV = m.RV then 0 else x) ≤ _
        rw [if_pos rfl, hsv, hrv, hsm, if_neg h4]
        omega
      · rw [if_neg hcm]
        have hw : wtG e f g = f := by unfold wtG; rw [if_neg hk, if_neg h4, if_neg hcm, if_pos hp']
        rw [hw]
        by_cases hpo : m.polling = true
        · rw [if_pos hpo]
          show sp b { m with VS := m.A, polling := false, peer := g.k == 3, timer := 0 } + rp u v N { m with VS := m.A, polling := false, peer := g.k == 3, timer := 0 } + 0 + k1 + (if m.RV = m.RV then 0 else x) ≤ _
          rw [if_pos rfl, hsv, hrv, hsm, if_pos hpo, if_neg (by simp)]
          omega
        · rw [if_neg hpo]
          show sp b { m with VS := (if g.k = 4 then m.A else m.VS), polling := m.polling, peer := g.k == 3, timer := m.timer } + rp u v N { m with VS := (if g.k = 4 then m.A else m.VS), polling := m.polling, peer := g.k == 3, timer := m.timer } + 0 + k1 + (if m.RV = m.RV then 0 else x) ≤ _
          rw [if_pos rfl, hsv, hrv, hsm, if_neg h4]
          omega
theorem hear_pot (W : Wts b e f u v x k1 k2) (hc : c.ok) (h : n.ok c) (hg : g.ok) (h1 : n.A ≤ g.nr) (h2 : g.nr ≤ n.VM) (hN : g.k = 1 → g.ns = n.RV → n.RV < N) :
    sp b (gHear c g n).1 + rp u v N (gHear c g n).1 + wtL e f (gHear c g n).2 + k1 + (if (gHear c g n).1.RV = n.RV then 0 else x) ≤ sp b n + rp u v N n + wtG e f g + k2 := by
  have q := hear1_pot W hc h hg h1 h2 hN
  have hok := (gHear1_step h h1 h2).1.ok
  have p1 := gPump_pot hok b e f
  have p2 := gPump_rp (c := c) (n := (gHear1 c g n).1) u v N
  have p3 : (gHear c g n).1.RV = (gHear1 c g n).1.RV := gPump_keeps.2.1
  rw [p3]
  show sp b (gPump c (gHear1 c g n).1).1 + rp u v N (gPump c (gHear1 c g n).1).1 + wtL e f ((gHear1 c g n).2 ++ (gPump c (gHear1 c g n).1).2) + k1 + _ ≤ _
  rw [p2, wtL_append]
  omega
theorem wtsMove : Wts 0 10 20 8 19 0 0 10 := ⟨by omega, by omega, by omega, by omega, by omega, by omega⟩
theorem wtsFlow : Wts 30 2 1 31 30 1 1 0 := ⟨by omega, by omega, by omega, by omega, by omega, by omega⟩
/-- A frame is heard and what came is taken: it is less. -/
theorem fstep_pot (hc : c.ok) (h : n.ok c) (hf : n.free) (hg : g.ok) (h1 : n.A ≤ g.nr) (h2 : g.nr ≤ n.VM) (hN : g.k = 1 → g.ns = n.RV → n.RV < N) :
    sp 30 (fstep c g n).1 + rp 31 30 N (fstep c g n).1 + wtL 2 1 (fstep c g n).2 + 1 ≤ sp 30 n + rp 31 30 N n + wtG 2 1 g := by
  have q := hear_pot wtsFlow hc h hg h1 h2 hN
  have e1 : sp 30 (fstep c g n).1 = sp 30 (gHear c g n).1 := rfl
  have e2 : rp 31 30 N (fstep c g n).1 = rp 31 30 N (gHear c g n).1 := rfl
  have e3 : wtL 2 1 (fstep c g n).2 = wtL 2 1 (gHear c g n).2 + wtL 2 1 (gTaken c (gHear c g n).1).2 := wtL_append _ _ _ _
  rw [e1, e2, e3]
  have hfree : gHeld c (gTaken c (gHear c g n).1).1 = false := (fstep_free (c := c) (g := g) hf).held hc
  have w := gChange_wt (c := c) 2 1 (gHeld c (gHear c g n).1) (gTaken c (gHear c g n).1).1
  have w' : wtL 2 1 (gTaken c (gHear c g n).1).2 = wtL 2 1 (gChange c (gHeld c (gHear c g n).1) (gTaken c (gHear c g n).1).1) := rfl
  rw [w']
  by_cases hR : (gHear c g n).1.RV = n.RV
  · rw [if_pos hR] at q
    -- nothing more has come, so it is not held up
    have hcm : (gHear c g n).1.came = n.came := by
      rcases (gHear_step h h1 h2).2.2 with z | z
      · exact z.2
      · omega
    have hb : (gHear c g n).1.busy = false := (fstep_free (c := c) (g := g) hf).busy
    have hh : gHeld c (gHear c g n).1 = false := Gn.free.held hc ⟨hb, hcm.trans hf.came⟩
    have := w.2 (hfree.trans hh.symm)
    omega
  · rw [if_neg hR] at q
    have := w.1
    omega
/-- A frame is heard. -/
theorem hear_move (hc : c.ok) (h : n.ok c) (hg : g.ok) (h1 : n.A ≤ g.nr) (h2 : g.nr ≤ n.VM) (hN : g.k = 1 → g.ns = n.RV → n.RV < N) :
    sp 0 (gHear c g n).1 + rp 8 19 N (gHear c g n).1 + wtL 10 20 (gHear c g n).2 ≤ sp 0 n + rp 8 19 N n + wtG 10 20 g + 10 := by
  have q := hear_pot wtsMove hc h hg h1 h2 hN
  have e : (if (gHear c g n).1.RV = n.RV then 0 else 0) = 0 := by split <;> rfl
  rw [e] at q
  omega
theorem tick_pot {r : Gn × List GF} (hr : gTick c n = some r) : sp 0 r.1 + wtL 10 20 r.2 ≤ sp 0 n + 10 ∧ sp 30 r.1 + wtL 2 1 r.2 ≤ sp 30 n + 32 ∧ ∀ u v N, rp u v N r.1 = rp u v N n := by
  have hq := gReady_23 (c := c) (n := n)
  unfold gTick at hr
  split at hr
  · cases hr
    exact ⟨by simp [wtL], by simp [wtL], fun _ _ _ => rfl⟩
  · split at hr
    · split at hr
      · cases hr
      · cases hr
        have hw : ∀ e f, wtL e f [gPoll c n] = e := by
          intro e f
          show (if gReady c n = 1 then 2 else if gReady c n = 4 then 31 else if true = true then e else if true = true then f else 1) + 0 = e
          rw [if_neg (by omega), if_neg (by omega)]
          simp
        refine ⟨?_, ?_, fun _ _ _ => rfl⟩
        · show 2 * (n.gv.length - n.VS) + (if true = true then 0 else 0) + wtL 10 20 [gPoll c n] ≤ 2 * (n.gv.length - n.VS) + (if n.polling then 0 else 0) + 10
          rw [hw]
          simp
        · show 2 * (n.gv.length - n.VS) + (if true = true then 30 else 0) + wtL 2 1 [gPoll c n] ≤ 2 * (n.gv.length - n.VS) + (if n.polling then 30 else 0) + 32
          rw [hw, if_pos rfl]
          omega
    · cases hr
      exact ⟨by simp [wtL, sp], by simp [wtL, sp], fun _ _ _ => rfl⟩
theorem send_pot (h : n.ok c) (m : Msg) (hm : m.length ≤ 32) (N : Nat) : sp 0 (gSend c m n).1 + wtL 10 20 (gSend c m n).2 ≤ sp 0 n + 2 ∧ rp 8 19 N (gSend c m n).1 = rp 8 19 N n ∧ (gSend c m n).1.gv.length ≤ n.gv.length + 1 := by
  unfold gSend
  split
  · exact ⟨by simp [wtL], rfl, by simp⟩
  · have ho : ({ n with gv := n.gv ++ [m] } : Gn).ok c := by
      refine ⟨h.avs, h.vsm, ?_, h.win, fun x hx => ?_⟩
      · have := h.vmn
        show n.VM ≤ (n.gv ++ [m]).length
        rw [List.length_append]; omega
      · rcases List.mem_append.1 hx with hx | hx
        · exact h.g32 x hx
        · simp at hx; rw [hx]; exact hm
    have p1 := gPump_pot ho 0 10 20
    have p2 := gPump_rp (c := c) (n := { n with gv := n.gv ++ [m] }) 8 19 N
    refine ⟨?_, p2, ?_⟩
    · rw [p1]
      show 2 * ((n.gv ++ [m]).length - n.VS) + _ ≤ 2 * (n.gv.length - n.VS) + _ + 2
      rw [List.length_append]
      have : [m].length = 1 := rfl
      have h1 := h.vsm
      have h2 := h.vmn
      show 2 * (n.gv.length + [m].length - n.VS) + (if n.polling then 0 else 0) ≤ 2 * (n.gv.length - n.VS) + (if n.polling then 0 else 0) + 2
      omega
    · rw [gPump_keeps.2.2.2]
      show (n.gv ++ [m]).length ≤ _
      rw [List.length_append]
      exact Nat.le_refl _
end
end Go.Proofs.YtkalonhalhdlaaaDoor
