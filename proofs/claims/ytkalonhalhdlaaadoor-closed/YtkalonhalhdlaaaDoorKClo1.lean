/-
  One message over a link that has just begun: it comes, is taken and acknowledged; two links side by side.
-/
import Derived.Test.YtkalonhalhdlaaaDoorKTick
import Derived.Test.YtkalonhalhdlaaaDoorSDone
namespace Go.Proofs.YtkalonhalhdlaaaDoor
open Go.RowKit

theorem give_calm {c : Nat → Cfg} (hT : Two c) : (pkB.give c 0).calm c ∧ (pkB.give c 0).pot 30 2 1 31 30 ≤ 4000 ∧ ((pkB.give c 0).n 0).gv.length = 1 := by
  have hmi : (pkB.give c 0).mi c 48 := Pk.mi.give (w := 38) ⟨pkB_inv c, fun i _ => ⟨fun h => by simp [pkB, gnB] at h, fun _ _ => by simp [pkB, gnB], by simp [pkB, gnB], by simp [pkB, gnB]⟩, fun i _ => .inl fun _ => rfl, by simp [Pk.pot, Pk.pot1, pkB, gnB, sp, rp, wtL]⟩ hT (by omega)
  have e0 : (pkB.give c 0).n 0 = (gSend (c 0) (msgL 0 0) gnB).1 := rfl
  have e1 : (pkB.give c 0).n 1 = gnB := rfl
  have L0 : (pkB.give c 0).L 0 = (gSend (c 0) (msgL 0 0) gnB).2 := by
    show upd pkB.L 0 (pkB.L 0 ++ (gSend (c 0) (msgL 0 0) gnB).2) 0 = _
    rw [upd_same]
    rfl
  have L1 : (pkB.give c 0).L 1 = [] := rfl
  have es : gSend (c 0) (msgL 0 0) gnB = gPump (c 0) { gnB with gv := [msgL 0 0] } := rfl
  have hb : (gSend (c 0) (msgL 0 0) gnB).1.busy = false ∧ (gSend (c 0) (msgL 0 0) gnB).1.came = [] ∧ (gSend (c 0) (msgL 0 0) gnB).1.polling = false ∧ (gSend (c 0) (msgL 0 0) gnB).1.peer = false ∧ (gSend (c 0) (msgL 0 0) gnB).1.A = 0 ∧ (gSend (c 0) (msgL 0 0) gnB).1.RV = 0 ∧ (gSend (c 0) (msgL 0 0) gnB).1.gv = [msgL 0 0] := by
    rw [es]
    have k1 := gPump_keeps (c := c 0) (n := { gnB with gv := [msgL 0 0] })
    have k2 := gPump_keeps2 (c := c 0) (n := { gnB with gv := [msgL 0 0] })
    exact ⟨k2.2.2.1, k1.2.2.1, k2.1, k2.2.1, k1.1, k1.2.1, k1.2.2.2⟩
  have hv : (gSend (c 0) (msgL 0 0) gnB).1.VS = gTo (c 0) { gnB with gv := [msgL 0 0] } ∧ (gSend (c 0) (msgL 0 0) gnB).2 = run [msgL 0 0] 0 0 (gTo (c 0) { gnB with gv := [msgL 0 0] }) := by
    rw [es]
    unfold gPump
    rw [if_neg (by simp [gnB])]
    exact ⟨gTimer_VS, rfl⟩
  have hfr : ∀ i, i < 2 → ((pkB.give c 0).n i).free := both (show 0 < 2 by omega) (by rw [e0]; exact ⟨hb.1, hb.2.1⟩) (by show ((pkB.give c 0).n 1).free; rw [e1]; exact ⟨rfl, rfl⟩)
  have hrd := ready_of (hmi.mono (by omega)) hfr
  refine ⟨⟨hmi.inv, hfr, hmi.si, both (show 0 < 2 by omega) ?_ ?_⟩, hrd.pot, by rw [e0, hb.2.2.2.2.2.2]; rfl⟩
  · show Dirn _ ((pkB.give c 0).n 1) _ ((pkB.give c 0).L 1)
    rw [e0, e1, L0, L1]
    refine ⟨fun h => ?_, .inr ?_, .inr ?_, .inr ?_⟩
    · rw [hb.2.2.1] at h; cases h
    · rw [hv.1, hv.2]
      have := reach_run [msgL 0 0] 0 (gTo (c 0) { gnB with gv := [msgL 0 0] }) 0 0 (Nat.le_refl _)
      rw [Nat.zero_add] at this
      exact this
    · exact hb.2.2.2.2.1
    · exact hb.2.2.2.1
  · show Dirn ((pkB.give c 0).n 1) ((pkB.give c 0).n 0) ((pkB.give c 0).L 1) ((pkB.give c 0).L 0)
    rw [e0, e1, L0, L1]
    refine ⟨fun h => (by cases h), .inr (Nat.zero_le _), .inr ?_, .inr ?_⟩
    · rw [hb.2.2.2.2.2.1, hv.2]
      by_cases e : run [msgL 0 0] 0 0 (gTo (c 0) { gnB with gv := [msgL 0 0] }) = []
      · rw [e]; rfl
      · exact lastn_all _ _ e (fun g hg => by obtain ⟨_, _, _, rfl⟩ := mem_run hg; rfl)
    · rw [hv.2]
      exact lastp_run' _ _ _ _ _
/-- What Closed does with its second link. -/
theorem closed_plain {c : Nat → Cfg} (hT : Two c) : (giveOk c lkB.s lkB.n 0 == 0 || giveOk c lkB.s lkB.n 0 == 7) = true ∧ ∃ k3, flowsL c 5000 ((lkB.give c 0).look) = (true, k3) ∧ k3.t 0 = 1 := by
  obtain ⟨g1, g2⟩ := (lkB_sim c).give hT (show 0 < 2 by omega)
  obtain ⟨c1, c2, c3⟩ := give_calm hT
  obtain ⟨k3, p3, f1, f2, f3, _, f5, f6, f7⟩ := flows_end hT 5000 g2.look.1 c1 Lk.look_still (by omega)
  refine ⟨by rcases g1 with e | e <;> rw [e] <;> rfl, k3, f1, ?_⟩
  have a := f3.all hT f5 f6 (show 0 < 2 by omega)
  rw [f2.t 0 (by omega), a.2.2.1, f7 0 (by omega), c3]
theorem gives_at {B : Fen} {w w1 : World} {kb : Nat} {b : Nat → Nat} {c : Nat → Cfg} {k : Lk} (h : k.at B w kb b c w1) (hB : B.top ≤ w.heap.size) (i : Nat) (hi : i < 2) (hn : (k.n i).length ≤ 1000000) (ho : (k.s i).out.length + 18 ≤ 2199023255552) :
    Calls Tryd.prog 25 #[.pointer (some ⟨kb, 0, none⟩), .int .i64 i] w1 fun e w' => e = .returned (.bool (giveOk c k.s k.n i == 0 || giveOk c k.s k.n i == 7)) ∧ (k.give c i).at B w kb b c w' := by
  obtain ⟨own, v, g, h1, h2, h3⟩ := h
  refine (gives_link h1 h2 (Nat.le_trans hB h3.size) i hi hn ho).mono ?_
  rintro e w' ⟨rfl, h4⟩
  exact ⟨rfl, h4.from h3⟩
theorem Lk.at.rebase {B : Fen} {w w1 : World} {kb : Nat} {b : Nat → Nat} {c : Nat → Cfg} {k : Lk} (h : k.at B w kb b c w1) : k.at B w1 kb b c w1 := by
  obtain ⟨own, v, g, h1, h2, _⟩ := h
  exact ⟨own, v, g, h1, h2, Bel.refl _ _⟩

/-- Two links: a station of the elder one, open; the younger one has just begun. -/
def OpenCl (lo lo2 b0 : Nat) (c0 : Cfg) (ob : Nat) (b : Nat → Nat) (c : Nat → Cfg) (wr : World) : Prop :=
  (∃ own s, Stn wr own 0 b0 c0 s false ∧ ∀ y, own y ≠ 0 → lo ≤ y ∧ y < lo2) ∧ lkB.at (fen lo2 0) wr ob b c wr
/-- The station was closed. -/
def ShutCl (lo b0 ob : Nat) (b : Nat → Nat) (c : Nat → Cfg) (wr : World) : Prop := Shut wr b0 ∧ lkB.at (fen0 lo) wr ob b c wr
theorem ShutCl.later {lo b0 ob : Nat} {b : Nat → Nat} {c : Nat → Cfg} {w w' : World} (h : ShutCl lo b0 ob b c w) (hlo : lo ≤ w.heap.size) (hb : Below w.heap.size w w') : ShutCl lo b0 ob b c w' :=
  ⟨h.1.later hb, (h.2.later (show (fen0 lo).top ≤ w.heap.size by unfold Fen.top; show max lo 0 ≤ _; omega) hb).rebase⟩
theorem OpenCl.close {lo lo2 b0 : Nat} {c0 : Cfg} {ob : Nat} {b : Nat → Nat} {c : Nat → Cfg} {wr : World} (h : OpenCl lo lo2 b0 c0 ob b c wr) (h0 : 0 < lo) (hlo : lo ≤ lo2) :
    Calls Tryd.prog 16 #[.pointer (some ⟨b0, 0, none⟩)] wr fun e w' => e = .returned (.int .i64 0) ∧ ShutCl lo b0 ob b c w' ∧ Below lo wr w' := by
  obtain ⟨⟨own, s, ⟨ch, q, cm, o, ev, qe, ce, oe, hS⟩, hown⟩, hat⟩ := h
  have k1 := close_any hS
  simp only [Bool.false_eq_true, if_false] at k1
  refine k1.mono ?_
  rintro e w' ⟨rfl, hS2, hu⟩
  have hX : ∀ y, (∃ p, p < 5 ∧ own y = tg 0 p) → lo ≤ y ∧ y < lo2 := fun y ⟨p, _, e⟩ => hown y (by rw [e]; exact tg_pos _ _)
  refine ⟨rfl, ⟨⟨ch, hS2.c_ch, hS2.chan, hS2.lt⟩, ?_⟩, ?_⟩
  · obtain ⟨own2, v, g, h1, h2, _⟩ := hat
    refine ⟨own2, v, g, h1.beside (fun _ _ => rfl) hu.keeps (fun y hy => ?_) (fun hy => ?_), fun y hy => ⟨Nat.le_trans hlo (h2 y hy).1, id⟩, Bel.refl _ _⟩
    · exact Classical.byContradiction fun hne => by
        have a1 : lo2 ≤ y := (h2 y hne).1
        have a2 := (hX y hy).2
        omega
    · have := (hX 0 hy).1
      omega
  · exact hu.keeps.belowX (by
      have := (hown b0 (by rw [hS.ownb]; exact tg_pos _ _)).1
      have := hS.lt
      omega) (fun y hy => (hX y hy).1)
end Go.Proofs.YtkalonhalhdlaaaDoor
