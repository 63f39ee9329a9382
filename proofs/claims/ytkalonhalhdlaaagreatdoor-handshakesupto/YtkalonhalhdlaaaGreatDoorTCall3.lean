/-
  What View and TakeAll of the document's station do; its calls, whether it is closed or not.
-/
import Derived.Test.YtkalonhalhdlaaaGreatDoorG22
import Derived.Test.YtkalonhalhdlaaaGreatDoorTHear2
import Derived.Test.YtkalonhalhdlaaaGreatDoorSCall5
namespace Go.Proofs.YtkalonhalhdlaaaGreatDoor
open Go.RowKit
section
variable {w W : World} {own : Nat → Nat} {i b : Nat} {c : Cfg} {s : St} {cl : Bool} {q cm o ev : Value} {ce oe : List Value}
theorem QRow.slice {t : Nat} {v : Value} {l : List Msg} (h : QRow w own t v l) : ∃ p cap, v = .slice p l.length cap := by
  obtain ⟨p, cap, e, _⟩ := h
  exact ⟨p, cap, e⟩
theorem QRow.freedOther {t t' : Nat} {v : Value} {l : List Msg} (h : QRow w own t v l) (ht : t ≠ t') : QRow w (Proofs.YtkalonhalhdlaaaGreatDoor.freed own t') t v l :=
  h.keeps' (X := fun _ => False) (Keeps.refl _ _) (fun _ hx => absurd hx id) (fun k _ e => (freed_other (by rw [e]; exact ht)).trans e)
theorem TAt.freed2 (h : TAt w own i b c s cl q (.slice none 0 0) o ev ce oe) (h2 : s.came = []) : TAt w (freed own (tg i 2)) i b c s cl q (.slice none 0 0) o ev ce oe := by
  have hn : ∀ p, p < 5 → p ≠ 2 → tg i p ≠ tg i 2 := fun p hp h => tg_ne hp (by omega) (.inr h)
  refine ⟨h.head, (freed_other (by rw [h.ownb]; exact hn 0 (by omega) (by omega))).trans h.ownb, h.lq.freedOther (hn 1 (by omega) (by omega)), ?_, h.lo.freedOther (hn 3 (by omega) (by omega)), h.lev, fun k hk => (freed_other (by rw [h.owne k hk]; exact hn 4 (by omega) (by omega))).trans (h.owne k hk), (freed_other (by rw [h.own0]; exact fun e => tg_pos _ _ e.symm)).trans h.own0, fun k hk => (freed_other (by rw [h.new0 k hk]; exact fun e => tg_pos _ _ e.symm)).trans (h.new0 k hk), h.cok, h.sok⟩
  have := h.lcm
  rw [h2] at this ⊢
  exact this.freedNil _
set_option maxHeartbeats 4000000 in
set_option maxRecDepth 100000 in
theorem tview_shut (h : TAt w own i b c s true q cm o ev ce oe) :
    Calls Tryz.prog 47 #[.pointer (some ⟨b, 0, none⟩)] w fun e w' => e = .returned (.tuple #[viewZ, .int .i64 (8 : Nat)]) ∧ Below w.heap.size w w' := by
  have hlt := h.lt
  have c21 : w.cell? ⟨b, 21, none⟩ = some (.bool true) := h.cell 21 rfl
  clear h
  unfold viewZ
  go_enter Tryz.func47, Tryz.ntmps47
  go_wp2
  refine bodyPost_ret (v := .tuple #[.agg #[.int .i64 0, .int .i64 0, .int .i64 0, .int .i64 0, .int .i64 0, .int .i64 0, .bool false, .bool false, .bool false, .int .i64 0, .int .i64 0], .int .i64 8]) (by simp [results, Tryz.results47, go_sem]) rfl ⟨rfl, ?_⟩
  exact (Below.refl _ w).alloc (Nat.le_refl _) _
set_option maxHeartbeats 4000000 in
set_option maxRecDepth 100000 in
theorem tview_open (h : TAt w own i b c s false q cm o ev ce oe) :
    Calls Tryz.prog 47 #[.pointer (some ⟨b, 0, none⟩)] w fun e w' => e = .returned (.tuple #[viewV s, .int .i64 (0 : Nat)]) ∧ Below w.heap.size w w' := by
  have hlt := h.lt
  have c21 : w.cell? ⟨b, 21, none⟩ = some (.bool false) := h.cell 21 rfl
  have c6 : w.cell? ⟨b, 6, none⟩ = some (.int .i64 s.state) := h.cell 6 rfl
  have c7 : w.cell? ⟨b, 7, none⟩ = some (.int .i64 s.vs) := h.cell 7 rfl
  have c8 : w.cell? ⟨b, 8, none⟩ = some (.int .i64 s.va) := h.cell 8 rfl
  have c9 : w.cell? ⟨b, 9, none⟩ = some (.int .i64 s.vr) := h.cell 9 rfl
  have c11 : w.cell? ⟨b, 11, none⟩ = some q := h.cell 11 rfl
  have c12 : w.cell? ⟨b, 12, none⟩ = some (.int .i64 s.timer) := h.cell 12 rfl
  have c13 : w.cell? ⟨b, 13, none⟩ = some (.int .i64 s.tries) := h.cell 13 rfl
  have c14 : w.cell? ⟨b, 14, none⟩ = some (.bool s.polling) := h.cell 14 rfl
  have c15 : w.cell? ⟨b, 15, none⟩ = some (.bool s.peer) := h.cell 15 rfl
  have c16 : w.cell? ⟨b, 16, none⟩ = some (.bool s.busy) := h.cell 16 rfl
  have c18 : w.cell? ⟨b, 18, none⟩ = some cm := h.cell 18 rfl
  obtain ⟨qp, qcap, rfl⟩ := h.lq.slice
  obtain ⟨mp, mcap, rfl, _, _⟩ := h.lcm.slice
  clear h
  unfold viewV
  generalize s.queue.length = nq at *
  generalize s.came.length = nc at *
  go_enter Tryz.func47, Tryz.ntmps47
  go_wp2_with fail
  have hne : ¬ b = w.heap.size := by omega
  have hne2 : ¬ w.heap.size = b := by omega
  go_region_held3 (fun w' => w'.cell? ⟨b, 6, none⟩ = some (.int .i64 s.state) ∧ w'.cell? ⟨b, 7, none⟩ = some (.int .i64 s.vs) ∧ w'.cell? ⟨b, 8, none⟩ = some (.int .i64 s.va) ∧ w'.cell? ⟨b, 9, none⟩ = some (.int .i64 s.vr) ∧ w'.cell? ⟨b, 11, none⟩ = some (.slice qp nq qcap) ∧ w'.cell? ⟨b, 12, none⟩ = some (.int .i64 s.timer) ∧ w'.cell? ⟨b, 13, none⟩ = some (.int .i64 s.tries) ∧ w'.cell? ⟨b, 14, none⟩ = some (.bool s.polling) ∧ w'.cell? ⟨b, 15, none⟩ = some (.bool s.peer) ∧ w'.cell? ⟨b, 16, none⟩ = some (.bool s.busy) ∧ w'.cell? ⟨b, 18, none⟩ = some (.slice mp nc mcap)) (go_keep) (fail)
  go_wp2
  all_goals
    refine bodyPost_ret (v := .tuple #[.agg #[.int .i64 s.state, .int .i64 s.vs, .int .i64 s.va, .int .i64 s.vr, .int .i64 s.timer, .int .i64 s.tries, .bool s.polling, .bool s.peer, .bool s.busy, .int .i64 nq, .int .i64 nc], .int .i64 0]) (by simp [results, Tryz.results47, go_sem]) rfl ⟨rfl, ?_⟩
    first | exact ((Below.refl _ w).alloc (Nat.le_refl _) _).drew | exact (Below.refl _ w).alloc (Nat.le_refl _) _
set_option maxHeartbeats 8000000 in
set_option maxRecDepth 100000 in
theorem ttakeall_any (h : TAt w own i b c s cl q cm o ev ce oe) (hl : s.out.length + 18 ≤ 2199023255552) :
    Calls Tryz.prog 43 #[.pointer (some ⟨b, 0, none⟩)] w fun e w' => if cl then e = .returned (.tuple #[.slice none 0 0, .int .i64 (8 : Nat)]) ∧ w' = w else e = .returned (.tuple #[cm, .int .i64 (0 : Nat)]) ∧ ∃ own', Ttn w' own' i b c (takenS c s) cl ∧ Lst w' own' 0 cm ce s.came ∧ UpdF i own own' w w' := by
  have hlt := h.lt
  have c21 : w.cell? ⟨b, 21, none⟩ = some (.bool cl) := h.cell 21 rfl
  cases cl with
  | true =>
    clear h
    go_enter Tryz.func43, Tryz.ntmps43
    go_wp2
    go_ret2
    exact ⟨rfl, rfl⟩
  | false =>
    have hdef : takenS c s = if s.state = 2 ∧ heldUp c { s with came := [] } ≠ heldUp c s then answer c false { s with came := [] } else { s with came := [] } := rfl
    have himp : heldUp c { s with came := [] } = true → heldUp c s = true := by
      have hr1 := h.cok.room1
      unfold heldUp
      simp
      intro hh
      rcases hh with hh | hh
      · exact .inl hh
      · omega
    have k2 := heldUp_ref h
    obtain ⟨op, ocap, rfl, _, _⟩ := h.lcm.slice
    have c18 : ∀ N, (w.drewN N).cell? ⟨b, 18, none⟩ = some (.slice op s.came.length ocap) := fun N => (h.drewN N).cell 18 rfl
    have fz : ∀ N j, (w.drewN N).frozen? ⟨b, j, none⟩ = false := fun N => (h.drewN N).fz
    have H := hide h
    clear h
    generalize ha2 : heldUp c { s with came := [] } = a2 at *
    generalize heldUp c s = a1 at *
    have HA2 := hide ha2
    clear ha2
    go_enter Tryz.func43, Tryz.ntmps43
    go_wp2_with fail
    refine k2.mono ?_
    rintro e w2 ⟨rfl, n2, rfl⟩
    have h0 := (unhide H).drewN n2
    have hK : Keeps (· = b) (w.drewN n2) ((w.drewN n2).setCell ⟨b, 18, none⟩ (.slice none 0 0)) := (Keeps.refl _ (w.drewN n2)).setB 18 (.slice none 0 0)
    have h2 := (h0.wroteL hK ((h0.hd.lcm _).as { s with came := [] } rfl) h0.lq Stays.gone Stays.same (.inl ⟨rfl, rfl⟩) ⟨h0.sok.state, h0.sok.vs, h0.sok.va, h0.sok.vr, h0.sok.vm, h0.sok.q20, h0.sok.q32, h0.sok.timer, h0.sok.tries, Nat.zero_le _⟩).freed2 rfl
    have hL := (h0.lcm.keeps hK (fun k hk => by rw [hk, h0.ownb]; exact tg_ne (by omega) (by omega) (.inr (by omega))) (fun _ _ => rfl)).freed
    have hK0 : Keeps (· = b) w ((w.drewN n2).setCell ⟨b, 18, none⟩ (.slice none 0 0)) := ((Keeps.refl _ w).drewN n2).setB 18 (.slice none 0 0)
    have k3 := heldUp_ref h2
    rw [unhide HA2] at k3
    have K3 := hide k3
    have H2 := hide h2
    have HL := hide hL
    have HK0 := hide hK0
    have d18 := c18 n2
    have fz2 := fz n2
    clear h0 h2 hK k2 hL hK0 k3 c18 fz HA2
    go_wp2_with fail
    refine (unhide K3).mono ?_
    rintro e w3 ⟨rfl, n3, rfl⟩
    have h3 := (unhide H2).drewN n3
    have hL3 : Lst (((w.drewN n2).setCell ⟨b, 18, none⟩ (.slice none 0 0)).drewN n3) (freed own (tg i 2)) 0 (.slice op s.came.length ocap) ce s.came := (unhide HL).keeps (X := fun _ => False) ((Keeps.refl _ _).drewN n3) (fun _ hx => absurd hx id) (fun _ _ => rfl)
    have hK3 : Keeps (· = b) w (((w.drewN n2).setCell ⟨b, 18, none⟩ (.slice none 0 0)).drewN n3) := (unhide HK0).drewN n3
    clear K3 H2 HL HK0 d18 fz2
    generalize ((w.drewN n2).setCell ⟨b, 18, none⟩ (.slice none 0 0)).drewN n3 = V at *
    have c6 : V.cell? ⟨b, 6, none⟩ = some (.int .i64 s.state) := h3.cell 6 rfl
    have hltV := h3.lt
    have hob := (unhide H).ownb
    have K4 := hide (status_ref h3 false false (by show s.out.length ≤ _; omega))
    have H3 := hide (And.intro h3 (And.intro hL3 hK3))
    have HD := hide hdef
    have HOB := hide hob
    clear h3 hL3 hK3 hdef hob H
    have HZ : Hid (∃ own', Ttn V own' i b c { s with came := [] } false ∧ Lst V own' 0 (.slice op s.came.length ocap) ce s.came ∧ UpdF i own own' w V) :=
      ⟨_, ⟨_, _, _, _, _, _, (unhide H3).1⟩, (unhide H3).2.1, UpdF.freed (p := 2) (by omega) (unhide H3).2.2 (unhide HOB) (Upd.refl _ _ _)⟩
    by_cases hst : s.state = 2
    · rw [hst] at c6
      by_cases hne : a2 = a1
      · have HP : Hid (takenS c s = { s with came := [] }) := hide ((unhide HD).trans (if_neg (fun hh => hh.2 hne)))
        subst hne
        clear K4 HD hst himp
        cases a2
        all_goals
          go_wp2
          go_ret2
          rw [unhide HP]
          exact ⟨rfl, unhide HZ⟩
      · have HP : Hid (takenS c s = answer c false { s with came := [] }) := hide ((unhide HD).trans (if_pos ⟨hst, hne⟩))
        have hx : a1 = true ∧ a2 = false := by cases a1 <;> cases a2 <;> simp at hne himp ⊢
        obtain ⟨rfl, rfl⟩ := hx
        clear HD hst hne himp HZ
        go_wp2_with fail
        refine (unhide K4).mono ?_
        rintro e w5 ⟨rfl, own5, o5, oe5, h5, u5⟩
        have hL5 := (unhide H3).2.1.keeps (X := _) (own' := own5) u5.keeps (fun k ⟨p, _, e⟩ e2 => by rw [e2] at e; exact tg_pos _ _ e.symm) u5.same
        have HR5 := hide (And.intro h5 (And.intro hL5 (UpdF.freed (p := 2) (by omega) (unhide H3).2.2 (unhide HOB) u5)))
        clear K4 h5 u5 c6 H3 hL5
        go_wp2
        go_ret2
        rw [unhide HP]
        exact ⟨rfl, _, ⟨_, _, _, _, _, _, (unhide HR5).1⟩, (unhide HR5).2.1, (unhide HR5).2.2⟩
    · have HP : Hid (takenS c s = { s with came := [] }) := hide ((unhide HD).trans (if_neg (fun hh => hst hh.1)))
      have hsI : ((s.state : Int) == 2) = false := by simp; omega
      clear K4 HD hst himp
      go_wp2
      go_ret2
      rw [unhide HP]
      exact ⟨rfl, unhide HZ⟩
end
end Go.Proofs.YtkalonhalhdlaaaGreatDoor
