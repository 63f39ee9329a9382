/-
  What one call of acknowledge does.
-/
import Derived.Test.YtkalonhalhdlaaaDoorSDel
namespace Go.Proofs.YtkalonhalhdlaaaDoor
open Go.RowKit

section
variable {w W : World} {own : Nat → Nat} {i b : Nat} {c : Cfg} {s : St} {cl : Bool} {ch : Nat} {q cm o ev : Value} {qe ce oe : List Value}

theorem Lst.slices {w : World} {own : Nat → Nat} {t : Nat} {v : Value} {ents : List Value} {l : List Msg} (h : Lst w own t v ents l) : ∀ x ∈ ents, ∃ p n c, x = .slice p n c := by
  intro x hx
  obtain ⟨j, hj, rfl⟩ := List.getElem_of_mem hx
  have hl := h.len
  have hb := h.each j _ _ (List.getElem?_eq_getElem hj) (List.getElem?_eq_getElem (by omega))
  obtain ⟨p, cap, e⟩ := row_slice hb.1
  exact ⟨p, _, cap, e⟩

/-- The queue's first ones are gone: its row alone was written. -/
theorem SAt.dropped {g cap : Nat} (h : SAt w own i b c s cl ch (.slice (some ⟨g, 0, none⟩) s.queue.length cap) cm o ev qe ce oe) {n : Nat} {w2 : World}
    (hk : Keeps (· = g) w w2) (hr : w2.ownsRow 0 22 1 (.slice (some ⟨g, 0, none⟩) (s.queue.length - n) cap) (s.queue.length - n) (qe.drop n)) :
    HeadAt w2 b c s ch (.slice (some ⟨g, 0, none⟩) s.queue.length cap) cm o ev ∧ Upd i own own w w2 ∧
    ∀ (w3 : World) (s' : St), Keeps (· = b) w2 w3 → HeadAt w3 b c s' ch (.slice (some ⟨g, 0, none⟩) (s.queue.length - n) cap) cm o ev → s'.queue = s.queue.drop n → s'.came = s.came → s'.out = s.out → s'.events = s.events → s'.fit c →
      SAt w3 own i b c s' cl ch (.slice (some ⟨g, 0, none⟩) (s.queue.length - n) cap) cm o ev (qe.drop n) ce oe ∧ Upd i own own w w3 := by
  have hgo : own g = tg i 1 := h.lq.rown g rfl
  have hbg : b ≠ g := fun e => by rw [← e, h.ownb] at hgo; exact tg_ne (by omega) (by omega) (.inr (by omega)) hgo
  have hcg : ch ≠ g := fun e => by rw [← e, h.ownc] at hgo; exact tg_ne (by omega) (by omega) (.inr (by omega)) hgo
  have hu : Upd i own own w w2 := ⟨hk.mono (fun k hk => ⟨1, by omega, by rw [hk]; exact hgo⟩), fun _ _ => rfl⟩
  refine ⟨by unfold HeadAt; rw [hk.block b h.lt hbg]; exact h.head, hu, ?_⟩
  intro w3 s' hk3 hh e1 e2 e3 e4 hfit
  have hK : Keeps (fun k => k = g ∨ k = b) w w3 := (hk.mono (fun _ h => .inl h)).trans (hk3.mono (fun _ h => .inr h))
  have hne : ∀ p, p < 5 → p ≠ 0 → p ≠ 1 → ∀ k, (k = g ∨ k = b) → own k ≠ tg i p := by
    intro p hp h0 h1 k hk
    rcases hk with hk | hk
    · rw [hk, hgo]; exact tg_ne (by omega) hp (.inr (by omega))
    · rw [hk, h.ownb]; exact tg_ne (by omega) hp (.inr (by omega))
  have hcb : ch ≠ b := fun e => by have := h.head; rw [← e, h.chan] at this; simp at this
  have hlc := (Array.getElem?_eq_some_iff.1 h.chan).1
  refine ⟨⟨hh, h.ownb, ?_, h.ownc, ⟨?_, fun k hk => ?_, ?_⟩, by rw [e2]; exact h.lcm.keeps hK (hne 2 (by omega) (by omega) (by omega)) (fun _ _ => rfl), by rw [e3]; exact h.lo.keeps hK (hne 3 (by omega) (by omega) (by omega)) (fun _ _ => rfl), ?_, h.owne, ?_, h.own0, fun k hs => h.new0 k (Nat.le_trans hK.size hs), h.cok, hfit⟩, hK.mono (fun k hk => by rcases hk with hk | hk; exact ⟨1, by omega, by rw [hk]; exact hgo⟩; exact ⟨0, by omega, by rw [hk]; exact h.ownb⟩), fun _ _ => rfl⟩
  · rw [hK.block ch hlc (fun hx => by rcases hx with hx | hx; exact hcg hx; exact hcb hx)]; exact h.chan
  · rw [e1, List.length_drop]
    exact ownsRow_keepsB hr hk3 (fun k hk e => by simp [Value.ownBlock] at hk; omega)
  · simp [Value.ownBlock] at hk
    rw [← hk]; exact hgo
  · intro j x m h1 h2
    rw [List.getElem?_drop] at h1
    rw [e1, List.getElem?_drop] at h2
    have hx := h.lq.each (n + j) x m h1 h2
    refine ⟨ownsRow_keepsB hx.1 hK (fun k hk hX => ?_), hx.2⟩
    rcases hX with hX | hX
    · obtain ⟨c1, e1⟩ := ownsRow_isRow h.lq.row (k := g) rfl
      obtain ⟨c2, e2⟩ := ownsRow_isRow hx.1 hk
      rw [hX, e1] at e2
      simp at e2
    · have := hx.2 k hk
      rw [hX, h.ownb] at this
      exact tg_ne (by omega) (by omega) (.inr (by omega)) this
  · rw [e4]; exact ownsRow_keepsB h.lev hK (fun k hk hX => hne 4 (by omega) (by omega) (by omega) k hX (h.owne k hk))
  · refine h.ctl.keeps hK h.pos (fun hx => ?_)
    rcases hx with hx | hx
    · rw [← hx, h.own0] at hgo; exact tg_pos _ _ hgo.symm
    · have := h.ownb; rw [← hx, h.own0] at this; exact tg_pos _ _ this.symm

set_option maxHeartbeats 4000000 in
set_option maxRecDepth 100000 in
theorem acknowledge_any (h : SAt w own i b c s cl ch q cm o ev qe ce oe) (nr : Nat) (hnr : nr < c.m) (hle : ahead c s nr ≤ s.queue.length) :
    Calls Tryd.prog 89 #[.pointer (some ⟨b, 0, none⟩), .int .i64 nr] w fun e w' => Did i b c (acknowledge c nr s) cl own w e w' := by
  have k1 := ahead_any h nr hnr
  have hlt := h.lt
  by_cases h0 : ahead c s nr = 0
  · have HP : Hid (acknowledge c nr s = s) := hide (by unfold acknowledge; rw [if_pos h0])
    rw [h0] at k1
    have H := hide h
    clear h h0
    go_enter Tryd.func89, Tryd.ntmps89
    go_wp2_with fail
    refine k1.mono ?_
    rintro e w1 ⟨rfl, n1, rfl⟩
    clear k1
    go_wp2
    refine bodyPost_ret (results_none rfl _ _ _) rfl ?_
    rw [unhide HP]
    exact (unhide H).idleB (below_drewN (Below.refl _ w) _)
  · obtain ⟨g, cap, p, pc, rfl, _, _, hq1, hq2⟩ := h.lq.at 0 (by omega)
    have c8 := h.c_vs
    have c12 := h.c_q
    have fz := h.fz
    have hq20 := h.sok.q20
    have HP : Hid (acknowledge c nr s = { s with vs := if ahead c s s.vs < ahead c s nr then nr else s.vs, queue := s.queue.drop (ahead c s nr), va := nr, timer := if s.polling then s.timer else 0 }) := hide (by unfold acknowledge; rw [if_neg h0])
    have k2 := fun n => ahead_any (h.drewN n) s.vs h.sok.vs
    generalize hn : ahead c s nr = n at *
    have hz : ((n : Int) == 0) = false := by simp; omega
    generalize hx : ahead c s s.vs = x at *
    by_cases hxn : x < n
    · have HP2 : Hid (acknowledge c nr s = { s with vs := nr, queue := s.queue.drop n, va := nr, timer := if s.polling then s.timer else 0 }) := hide (by rw [unhide HP, if_pos hxn])
      have H := hide h
      have HQ2 := hide hq2
      clear h hq2 HP
      go_enter Tryd.func89, Tryd.ntmps89
      go_wp2_with fail
      refine k1.mono ?_
      rintro e w1 ⟨rfl, n1, rfl⟩
      clear k1
      go_wp2_with fail
      refine (k2 _).mono ?_
      rintro e w1 ⟨rfl, n2, rfl⟩
      clear k2
      have h0' := ((unhide H).drewN n1).drewN n2
      have h1 := h0'.wrote (s' := { s with vs := nr }) ((Keeps.refl _ _).setB 8 (.int .i64 (nr : Nat))) (h0'.hd.vs nr) rfl rfl rfl rfl ⟨h0'.sok.state, hnr, h0'.sok.va, h0'.sok.vr, h0'.sok.vm, h0'.sok.q20, h0'.sok.q32, h0'.sok.timer, h0'.sok.tries, h0'.sok.came⟩
      have u1 : Upd i own own w _ := Upd.of (below_drewN (below_drewN (Below.refl _ w) n1) n2) (h0'.upd ((Keeps.refl _ _).setB 8 (.int .i64 (nr : Nat))))
      clear h0'
      rw [World.drewN_drewN] at h1 u1
      have K3 := hide (delete_any g n cap s.queue.length qe _ h1.lq.row h1.lq.slices hle)
      have H1 := hide h1
      have U1 := hide u1
      clear h1 u1
      go_wp2_with fail
      refine (unhide K3).mono ?_
      rintro e w2 ⟨rfl, hr, hk⟩
      obtain ⟨hh2, u2, fin⟩ := (unhide H1).dropped hk hr
      have d12 : w2.cell? ⟨b, 12, none⟩ = some (.slice (some ⟨g, 0, none⟩) s.queue.length cap) := by rw [Lib.cell_of_heap hh2]; rfl
      have d9 : w2.cell? ⟨b, 9, none⟩ = some (.int .i64 s.va) := by rw [Lib.cell_of_heap hh2]; rfl
      have d15 : w2.cell? ⟨b, 15, none⟩ = some (.bool s.polling) := by rw [Lib.cell_of_heap hh2]; rfl
      have d13 : w2.cell? ⟨b, 13, none⟩ = some (.int .i64 s.timer) := by rw [Lib.cell_of_heap hh2]; rfl
      have fz2 : ∀ j, w2.frozen? ⟨b, j, none⟩ = false := fun j => Lib.frozen_of_heap hh2 j
      have hsok := (unhide H1).sok
      have hq : ∀ x ∈ s.queue.drop n, x.length ≤ 32 := fun x hx => hsok.q32 x (List.mem_of_mem_drop hx)
      have hql : (s.queue.drop n).length ≤ 20 := by rw [List.length_drop]; omega
      have HH := hide hh2
      have HFIN := hide fin
      have HSOK := hide hsok
      clear K3 H1 hh2 fin u2 hr hk H HQ2 c8 c12 fz hsok
      by_cases hp : s.polling = true
      · rw [hp] at d15
        have HP3 : Hid (acknowledge c nr s = { s with vs := nr, queue := s.queue.drop n, va := nr }) := hide (by rw [unhide HP2, if_pos hp])
        clear hp HP2
        go_wp2
        go_end0
        rw [unhide HP3]
        have hf := unhide HFIN _ { s with vs := nr, queue := s.queue.drop n, va := nr } (((Keeps.refl _ w2).setB 12 (.slice (some ⟨g, 0, none⟩) (s.queue.length - n) cap)).setB 9 (.int .i64 (nr : Nat))) ((((unhide HH).lq _).va nr).as _ rfl) rfl rfl rfl rfl ⟨(unhide HSOK).state, (unhide HSOK).vs, hnr, (unhide HSOK).vr, (unhide HSOK).vm, hql, hq, (unhide HSOK).timer, (unhide HSOK).tries, (unhide HSOK).came⟩
        exact ⟨rfl, own, ⟨_, _, _, _, _, _, _, _, hf.1⟩, (unhide U1).trans hf.2⟩
      · have hp' : s.polling = false := eq_false_of_ne_true hp
        have HP3 : Hid (acknowledge c nr s = { s with vs := nr, queue := s.queue.drop n, va := nr, timer := 0 }) := hide (by rw [unhide HP2, if_neg hp])
        rw [hp'] at d15
        clear hp hp' HP2
        go_wp2
        go_end0
        rw [unhide HP3]
        have hf := unhide HFIN _ { s with vs := nr, queue := s.queue.drop n, va := nr, timer := 0 } ((((Keeps.refl _ w2).setB 12 (.slice (some ⟨g, 0, none⟩) (s.queue.length - n) cap)).setB 9 (.int .i64 (nr : Nat))).setB 13 (.int .i64 (0 : Nat))) (((((unhide HH).lq _).va nr).timer 0).as _ rfl) rfl rfl rfl rfl ⟨(unhide HSOK).state, (unhide HSOK).vs, hnr, (unhide HSOK).vr, (unhide HSOK).vm, hql, hq, Nat.zero_le _, (unhide HSOK).tries, (unhide HSOK).came⟩
        exact ⟨rfl, own, ⟨_, _, _, _, _, _, _, _, hf.1⟩, (unhide U1).trans hf.2⟩
    · have HP2 : Hid (acknowledge c nr s = { s with vs := s.vs, queue := s.queue.drop n, va := nr, timer := if s.polling then s.timer else 0 }) := hide (by rw [unhide HP, if_neg hxn])
      have H := hide h
      have HQ2 := hide hq2
      clear h hq2 HP
      go_enter Tryd.func89, Tryd.ntmps89
      go_wp2_with fail
      refine k1.mono ?_
      rintro e w1 ⟨rfl, n1, rfl⟩
      clear k1
      go_wp2_with fail
      refine (k2 _).mono ?_
      rintro e w1 ⟨rfl, n2, rfl⟩
      clear k2
      have h1 := ((unhide H).drewN n1).drewN n2
      have u1 : Upd i own own w ((w.drewN n1).drewN n2) := Upd.of (below_drewN (below_drewN (Below.refl _ w) n1) n2) (Upd.refl _ _ _)
      rw [World.drewN_drewN] at h1 u1
      have K3 := hide (delete_any g n cap s.queue.length qe _ h1.lq.row h1.lq.slices hle)
      have H1 := hide h1
      have U1 := hide u1
      clear h1 u1
      go_wp2_with fail
      refine (unhide K3).mono ?_
      rintro e w2 ⟨rfl, hr, hk⟩
      obtain ⟨hh2, u2, fin⟩ := (unhide H1).dropped hk hr
      have d12 : w2.cell? ⟨b, 12, none⟩ = some (.slice (some ⟨g, 0, none⟩) s.queue.length cap) := by rw [Lib.cell_of_heap hh2]; rfl
      have d9 : w2.cell? ⟨b, 9, none⟩ = some (.int .i64 s.va) := by rw [Lib.cell_of_heap hh2]; rfl
      have d15 : w2.cell? ⟨b, 15, none⟩ = some (.bool s.polling) := by rw [Lib.cell_of_heap hh2]; rfl
      have d13 : w2.cell? ⟨b, 13, none⟩ = some (.int .i64 s.timer) := by rw [Lib.cell_of_heap hh2]; rfl
      have fz2 : ∀ j, w2.frozen? ⟨b, j, none⟩ = false := fun j => Lib.frozen_of_heap hh2 j
      have hsok := (unhide H1).sok
      have hq : ∀ x ∈ s.queue.drop n, x.length ≤ 32 := fun x hx => hsok.q32 x (List.mem_of_mem_drop hx)
      have hql : (s.queue.drop n).length ≤ 20 := by rw [List.length_drop]; omega
      have HH := hide hh2
      have HFIN := hide fin
      have HSOK := hide hsok
      clear K3 H1 hh2 fin u2 hr hk H HQ2 c8 c12 fz hsok
      by_cases hp : s.polling = true
      · rw [hp] at d15
        have HP3 : Hid (acknowledge c nr s = { s with vs := s.vs, queue := s.queue.drop n, va := nr }) := hide (by rw [unhide HP2, if_pos hp])
        clear hp HP2
        go_wp2
        go_end0
        rw [unhide HP3]
        have hf := unhide HFIN _ { s with vs := s.vs, queue := s.queue.drop n, va := nr } (((Keeps.refl _ w2).setB 12 (.slice (some ⟨g, 0, none⟩) (s.queue.length - n) cap)).setB 9 (.int .i64 (nr : Nat))) ((((unhide HH).lq _).va nr).as _ rfl) rfl rfl rfl rfl ⟨(unhide HSOK).state, (unhide HSOK).vs, hnr, (unhide HSOK).vr, (unhide HSOK).vm, hql, hq, (unhide HSOK).timer, (unhide HSOK).tries, (unhide HSOK).came⟩
        exact ⟨rfl, own, ⟨_, _, _, _, _, _, _, _, hf.1⟩, (unhide U1).trans hf.2⟩
      · have hp' : s.polling = false := eq_false_of_ne_true hp
        have HP3 : Hid (acknowledge c nr s = { s with vs := s.vs, queue := s.queue.drop n, va := nr, timer := 0 }) := hide (by rw [unhide HP2, if_neg hp])
        rw [hp'] at d15
        clear hp hp' HP2
        go_wp2
        go_end0
        rw [unhide HP3]
        have hf := unhide HFIN _ { s with vs := s.vs, queue := s.queue.drop n, va := nr, timer := 0 } ((((Keeps.refl _ w2).setB 12 (.slice (some ⟨g, 0, none⟩) (s.queue.length - n) cap)).setB 9 (.int .i64 (nr : Nat))).setB 13 (.int .i64 (0 : Nat))) (((((unhide HH).lq _).va nr).timer 0).as _ rfl) rfl rfl rfl rfl ⟨(unhide HSOK).state, (unhide HSOK).vs, hnr, (unhide HSOK).vr, (unhide HSOK).vm, hql, hq, Nat.zero_le _, (unhide HSOK).tries, (unhide HSOK).came⟩
        exact ⟨rfl, own, ⟨_, _, _, _, _, _, _, _, hf.1⟩, (unhide U1).trans hf.2⟩
end
end Go.Proofs.YtkalonhalhdlaaaDoor
