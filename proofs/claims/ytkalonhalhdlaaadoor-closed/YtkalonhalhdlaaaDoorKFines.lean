import Derived.Test.YtkalonhalhdlaaaDoorKBeg2
/-
  How much a call of a station can put out, and tell.
-/
namespace Go.Proofs.YtkalonhalhdlaaaDoor
open Go

theorem writeL_len (m : Int) (f : Fr) : (writeL m f).2.length ≤ 64 := by
  unfold writeL
  split
  · simp
  · split
    · simp
    · split
      · simp
      · rename_i h
        have h' : infoF m f.k f.info.length = true := by simpa using h
        have hl : f.info.length ≤ 32 := by
          unfold infoF repN at h'
          split at h'
          · have := of_decide_eq_true h'; omega
          · split at h'
            · have := eq_of_beq h'; split at this <;> omega
            · have := eq_of_beq h'; omega
        have hc : (ctlL m.toNat f.k.toNat f.ns.toNat f.nr.toNat f.p).length ≤ 2 := by unfold ctlL; split <;> simp
        simp only [List.length_cons, List.length_append]
        omega

/-- At most a frames more have gone out, at most e events more were told. -/
def Grows (a e : Nat) (s s' : St) : Prop := (∃ x, s'.out = s.out ++ x ∧ x.length ≤ a ∧ ∀ m ∈ x, m.length ≤ 64) ∧ ∃ y, s'.events = s.events ++ y ∧ y.length ≤ e

section
variable {c : Cfg} {s t u : St} {a e a' e' : Nat}
theorem Grows.same (h1 : t.out = s.out) (h2 : t.events = s.events) : Grows a e s t := ⟨⟨[], by simp [h1], by simp, by simp⟩, [], by simp [h2], by simp⟩
theorem Grows.trans (h : Grows a e s t) (k : Grows a' e' t u) : Grows (a + a') (e + e') s u := by
  obtain ⟨⟨x, x1, x2, x3⟩, y, y1, y2⟩ := h
  obtain ⟨⟨x', z1, z2, z3⟩, y', w1, w2⟩ := k
  refine ⟨⟨x ++ x', by rw [z1, x1, List.append_assoc], by simp; omega, fun m hm => ?_⟩, y ++ y', by rw [w1, y1, List.append_assoc], by simp; omega⟩
  rcases List.mem_append.1 hm with hm | hm
  · exact x3 m hm
  · exact z3 m hm
theorem Grows.mono (h : Grows a e s t) (h1 : a ≤ a') (h2 : e ≤ e') : Grows a' e' s t := by
  obtain ⟨⟨x, x1, x2, x3⟩, y, y1, y2⟩ := h
  exact ⟨⟨x, x1, by omega, x3⟩, y, y1, by omega⟩
theorem Grows.of (h : Grows a e t u) (h1 : t.out = s.out) (h2 : t.events = s.events) : Grows a e s u := by
  obtain ⟨⟨x, x1, x2, x3⟩, y, y1, y2⟩ := h
  exact ⟨⟨x, by rw [x1, h1], x2, x3⟩, y, by rw [y1, h2], y2⟩
theorem put_grows (f : Fr) : Grows 1 0 s (put c f s) := ⟨⟨[_], rfl, by simp, fun m hm => by simp at hm; rw [hm]; exact writeL_len _ _⟩, [], by simp [put], by simp⟩
theorem putC_grows (f : Fr) : Grows 1 0 s (putC c f s) := put_grows _
theorem putR_grows (f : Fr) : Grows 1 0 s (putR c f s) := put_grows _
theorem answer_grows (p : Bool) : Grows 1 0 s (answer c p s) := putR_grows _
theorem respond_grows (k : Nat) (p : Bool) : Grows 1 0 s (respond c k p s) := putR_grows _
theorem report_grows (p : Bool) : Grows 1 0 s (report c p s) := putR_grows _
theorem tell_grows (n : Nat) : Grows 0 1 s (tell n s) := ⟨⟨[], by simp [tell], by simp, by simp⟩, [n], rfl, by simp⟩
theorem ask_grows (k kd : Nat) : Grows 1 0 s (ask c k kd s) := Grows.of (putC_grows _) rfl rfl
theorem goDown_grows (n : Nat) : Grows 0 1 s (goDown n s) := Grows.of (tell_grows _) rfl rfl
theorem comeUp_grows (n : Nat) : Grows 0 1 s (comeUp n s) := Grows.of (tell_grows _) rfl rfl
theorem accept_grows (p : Bool) (n : Nat) : Grows 1 1 s (accept c p n s) := (comeUp_grows n).trans (respond_grows _ _)
theorem agree_grows (p : Bool) : Grows 1 1 s (agree c p s) := (respond_grows _ _).trans (goDown_grows _)
theorem sendNext_grows : Grows 1 0 s (sendNext c s) := by
  unfold sendNext upVm
  split
  · exact (putC_grows (c := c) ⟨0, 1, false, s.vs, s.vr, s.queue.getD (ahead c s s.vs) []⟩).trans (a' := 0) (e' := 0) (Grows.same rfl rfl)
  · exact (putC_grows (c := c) ⟨0, 1, false, s.vs, s.vr, s.queue.getD (ahead c s s.vs) []⟩).trans (a' := 0) (e' := 0) (Grows.same rfl rfl)
theorem pumpN_grows (n : Nat) : ∀ s : St, Grows n 0 s (pumpN c n s) := by
  induction n with
  | zero => exact fun s => Grows.same rfl rfl
  | succ n ih =>
    intro s
    unfold pumpN
    split
    · exact ((sendNext_grows).trans (ih _)).mono (by omega) (by omega)
    · exact Grows.same rfl rfl
theorem setTimer_grows : Grows 0 0 s (setTimer c s) := by
  unfold setTimer
  split
  · exact Grows.same rfl rfl
  · split <;> exact Grows.same rfl rfl
theorem pump_grows : Grows 16 0 s (pump c s) := by
  unfold pump
  split
  · exact Grows.same rfl rfl
  · exact (pumpN_grows 16 s).trans setTimer_grows
theorem acknowledge_grows (nr : Nat) : Grows 0 0 s (acknowledge c nr s) := by
  unfold acknowledge
  split <;> exact Grows.same rfl rfl
theorem fallApart_grows (f : Fr) : Grows 1 1 s (fallApart c f s) := by
  unfold fallApart
  exact Grows.of ((report_grows (c := c) (isCmd c f && f.p)).trans (tell_grows 2)) rfl rfl
theorem hearReady_grows (f : Fr) : Grows 1 0 s (hearReady c f s) := by
  unfold hearReady
  dsimp only
  split
  · exact Grows.same rfl rfl
  · split
    · exact Grows.of (answer_grows _) rfl rfl
    · split <;> exact Grows.same rfl rfl
theorem hearMsg_grows (f : Fr) : Grows 1 0 s (hearMsg c f s) := by
  unfold hearMsg
  split
  · exact answer_grows _
  · split
    · exact Grows.of (answer_grows _) rfl rfl
    · split
      · exact Grows.of (putR_grows _) rfl rfl
      · split
        · exact answer_grows _
        · exact Grows.same rfl rfl
theorem hearNum_grows (f : Fr) : Grows 17 1 s (hearNum c f s) := by
  unfold hearNum
  split
  · exact (fallApart_grows f).mono (by omega) (by omega)
  · refine Grows.mono (Grows.trans (a := 1) (e := 0) ?_ pump_grows) (by omega) (by omega)
    split
    · exact ((acknowledge_grows _).trans (hearMsg_grows f)).mono (by omega) (by omega)
    · exact ((acknowledge_grows _).trans (hearReady_grows f)).mono (by omega) (by omega)
theorem hearUp_grows (f : Fr) : Grows 17 1 s (hearUp c f s) := by
  unfold hearUp
  split
  · exact (accept_grows _ _).mono (by omega) (by omega)
  · split
    · exact (agree_grows _).mono (by omega) (by omega)
    · split
      · exact (goDown_grows _).mono (by omega) (by omega)
      · split
        · exact ((tell_grows 2).trans (ask_grows (c := c) 1 5)).mono (by omega) (by omega)
        · split
          · exact hearNum_grows f
          · exact Grows.same rfl rfl
theorem hearFrame_grows (f : Fr) : Grows 17 1 s (hearFrame c f s) := by
  unfold hearFrame
  split
  · unfold hearDown
    split
    · exact (accept_grows _ _).mono (by omega) (by omega)
    · split
      · exact (respond_grows _ _).mono (by omega) (by omega)
      · split
        · split
          · exact (respond_grows _ _).mono (by omega) (by omega)
          · exact Grows.same rfl rfl
        · exact Grows.same rfl rfl
  · split
    · unfold hearCalling
      split
      · exact (respond_grows _ _).mono (by omega) (by omega)
      · split
        · exact (respond_grows _ _).mono (by omega) (by omega)
        · split
          · exact (comeUp_grows _).mono (by omega) (by omega)
          · split
            · exact (goDown_grows _).mono (by omega) (by omega)
            · exact Grows.same rfl rfl
    · split
      · exact hearUp_grows f
      · split
        · unfold hearLeaving
          split
          · exact (respond_grows _ _).mono (by omega) (by omega)
          · split
            · exact (respond_grows _ _).mono (by omega) (by omega)
            · split
              · split
                · exact (goDown_grows _).mono (by omega) (by omega)
                · exact Grows.same rfl rfl
              · exact Grows.same rfl rfl
        · split
          · unfold hearBroken
            split
            · exact hearUp_grows f
            · split
              · split
                · exact (report_grows _).mono (by omega) (by omega)
                · exact Grows.same rfl rfl
              · exact Grows.same rfl rfl
          · exact Grows.same rfl rfl
theorem hearS_grows (b : Msg) : Grows 18 2 s (hearS c b s).2 := by
  unfold hearS
  split
  · exact Grows.same rfl rfl
  · split
    · exact (hearFrame_grows _).mono (by omega) (by omega)
    · exact Grows.same rfl rfl
theorem sendS_grows (b : Msg) : Grows 18 2 s (sendS c b s).2 := by
  unfold sendS
  split
  · exact Grows.same rfl rfl
  · split
    · exact Grows.same rfl rfl
    · split
      · exact Grows.same rfl rfl
      · exact Grows.of (pump_grows.mono (by omega) (by omega)) rfl rfl
theorem change_grows (was : Bool) : Grows 1 0 s (change c was s) := by
  unfold change
  split
  · exact answer_grows _
  · exact Grows.same rfl rfl
theorem busyS_grows (on : Bool) : Grows 18 2 s (busyS c on s) := Grows.of ((change_grows _).mono (by omega) (by omega)) rfl rfl
theorem takenS_grows : Grows 18 2 s (takenS c s) := Grows.of ((change_grows _).mono (by omega) (by omega)) rfl rfl
theorem runOut_grows : Grows 1 1 s (runOut c s) := by
  unfold runOut
  split
  · exact (goDown_grows _).mono (by omega) (by omega)
  · split
    · exact Grows.of ((putC_grows _).mono (by omega) (by omega)) rfl rfl
    · split
      · exact Grows.of ((putC_grows _).mono (by omega) (by omega)) rfl rfl
      · split
        · exact Grows.of ((putC_grows _).mono (by omega) (by omega)) rfl rfl
        · exact Grows.same rfl rfl
theorem tickS_grows : Grows 18 2 s (tickS c s) := by
  unfold tickS
  split
  · exact Grows.same rfl rfl
  · split
    · exact Grows.of (runOut_grows.mono (by omega) (by omega)) rfl rfl
    · exact Grows.same rfl rfl
end
end Go.Proofs.YtkalonhalhdlaaaDoor

/-
  A link that has made r moves: all is small.
-/
namespace Go.Proofs.YtkalonhalhdlaaaDoor
open Go

structure Lk.fine (k : Lk) (r : Nat) : Prop where
  out : ∀ i, i < 2 → (k.s i).out.length ≤ 18
  ol : ∀ i, i < 2 → ∀ m ∈ (k.s i).out, m.length ≤ 64
  ev : ∀ i, i < 2 → (k.s i).events.length ≤ 2
  ml : ∀ i, i < 2 → ∀ m ∈ k.l i, m.length ≤ 64
  l : ∀ i, i < 2 → (k.l i).length ≤ 64 * r
  n : ∀ i, i < 2 → (k.n i).length ≤ r
  t : ∀ i, i < 2 → k.t i ≤ (k.n i).length

theorem takeL_le : ∀ (l : List Msg) (gs : List ByteArray) (t : Nat), t ≤ gs.length → (takeL l gs t).2 ≤ gs.length := by
  intro l
  induction l with
  | nil => exact fun gs t h => h
  | cons m r ih =>
    intro gs t h
    unfold takeL
    split
    · rename_i e
      exact ih gs (t + 1) (List.getElem?_eq_some_iff.1 e).1
    · exact h

theorem Lk.small_of {k : Lk} {r : Nat} (h : k.fine r) (hr : r ≤ 1000000) : k.small :=
  ⟨fun i hi => by have := h.out i hi; omega, fun i hi => by have := h.ev i hi; omega, fun i hi m hm => by have := h.ml i hi m hm; omega, fun i hi => by have := h.n i hi; omega, fun i hi => by have := h.t i hi; have := h.n i hi; omega⟩

theorem Grows.refl (s : St) : Grows 18 2 s s := Grows.same rfl rfl
theorem upd_grows {s : Nat → St} {i : Nat} {u : St} (h : Grows 18 2 (s i) u) (j : Nat) : Grows 18 2 (s j) (upd s i u j) := by
  by_cases e : j = i
  · subst e; rw [upd_same]; exact h
  · rw [upd_other _ _ e]; exact Grows.refl _
section
variable {c : Nat → Cfg} {k : Lk} {r kd i : Nat} {on : Bool}
theorem Lk.move_s (j : Nat) : Grows 18 2 (k.s j) ((k.move c kd i on).s j) := by
  have hh : ∀ lost, Grows 18 2 (k.s j) ((k.hand c i lost).s j) := by
    intro lost
    show Grows 18 2 (k.s j) (handS c k.s k.l i lost j)
    unfold handS
    cases k.l i with
    | nil => exact Grows.refl _
    | cons m _ =>
      dsimp only
      cases lost
      · exact upd_grows (hearS_grows _) j
      · exact Grows.refl _
  unfold Lk.move
  split
  · exact upd_grows (sendS_grows _) j
  · split
    · exact hh _
    · split
      · exact upd_grows takenS_grows j
      · split
        · exact upd_grows tickS_grows j
        · split
          · exact upd_grows (busyS_grows _) j
          · exact hh _
theorem Lk.move_l (j : Nat) : (∀ m ∈ (k.move c kd i on).l j, m ∈ k.l j) ∧ ((k.move c kd i on).l j).length ≤ (k.l j).length := by
  have hh : ∀ lost, (∀ m ∈ (k.hand c i lost).l j, m ∈ k.l j) ∧ ((k.hand c i lost).l j).length ≤ (k.l j).length := by
    intro lost
    show (∀ m ∈ upd k.l i (k.l i).tail j, m ∈ k.l j) ∧ (upd k.l i (k.l i).tail j).length ≤ _
    by_cases e : j = i
    · subst e
      rw [upd_same]
      exact ⟨fun m hm => List.mem_of_mem_tail hm, by simp⟩
    · rw [upd_other _ _ e]
      exact ⟨fun m hm => hm, Nat.le_refl _⟩
  have h0 : (∀ m ∈ k.l j, m ∈ k.l j) ∧ (k.l j).length ≤ (k.l j).length := ⟨fun m hm => hm, Nat.le_refl _⟩
  unfold Lk.move
  split
  · exact h0
  · split
    · exact hh _
    · split
      · exact h0
      · split
        · exact h0
        · split
          · exact h0
          · exact hh _
theorem Lk.move_n (j : Nat) : ((k.move c kd i on).n j).length ≤ (k.n j).length + 1 := by
  unfold Lk.move
  split
  · show (giveN c k.s k.n i j).length ≤ _
    unfold giveN
    split
    · by_cases e : j = i
      · subst e; rw [upd_same]; simp
      · rw [upd_other _ _ e]; omega
    · omega
  · split
    · exact Nat.le_succ _
    · split
      · exact Nat.le_succ _
      · split
        · exact Nat.le_succ _
        · split
          · exact Nat.le_succ _
          · exact Nat.le_succ _
theorem Lk.move_t (h : ∀ i, i < 2 → k.t i ≤ (k.n i).length) (j : Nat) (hj : j < 2) : (k.move c kd i on).t j ≤ ((k.move c kd i on).n j).length := by
  have h0 := h j hj
  unfold Lk.move
  split
  · show k.t j ≤ (giveN c k.s k.n i j).length
    unfold giveN
    split
    · by_cases e : j = i
      · subst e; rw [upd_same]; simp; omega
      · rw [upd_other _ _ e]; exact h0
    · exact h0
  · split
    · exact h0
    · split
      · show upd k.t (1 - i) (takeL (k.s i).came (k.n (1 - i)) (k.t (1 - i))).2 j ≤ (k.n j).length
        by_cases e : j = 1 - i
        · subst e
          rw [upd_same]
          exact takeL_le _ _ _ h0
        · rw [upd_other _ _ e]; exact h0
      · split
        · exact h0
        · split
          · exact h0
          · exact h0
/-- A move, and the looking behind it. -/
theorem Lk.fine_move (h : k.fine r) : (k.move c kd i on).look.fine (r + 1) ∧ (∀ j, j < 2 → ((k.move c kd i on).l j).length + ((k.move c kd i on).s j).out.length ≤ 64 * r + 36) ∧ ∀ j, j < 2 → ((k.move c kd i on).look.s j).out = [] ∧ ((k.move c kd i on).look.s j).events = [] := by
  have hout : ∀ j, j < 2 → ((k.move c kd i on).look.s j).out = [] ∧ ((k.move c kd i on).look.s j).events = [] := by
    intro j hj
    show (lookedTo (k.move c kd i on).s 2 j).out = [] ∧ _
    unfold Lk.look lookedTo
    dsimp only
    rw [if_pos hj]
    exact ⟨rfl, rfl⟩
  have hmid : ∀ j, j < 2 → ((k.move c kd i on).s j).out.length ≤ 36 ∧ ∀ m ∈ ((k.move c kd i on).s j).out, m.length ≤ 64 := by
    intro j hj
    obtain ⟨⟨x, x1, x2, x3⟩, _⟩ := Lk.move_s (c := c) (k := k) (kd := kd) (i := i) (on := on) j
    have := h.out j hj
    refine ⟨by rw [x1, List.length_append]; omega, fun m hm => ?_⟩
    rw [x1] at hm
    rcases List.mem_append.1 hm with hm | hm
    · exact h.ol j hj m hm
    · exact x3 m hm
  have hlen : ∀ j, j < 2 → ((k.move c kd i on).l j).length + ((k.move c kd i on).s j).out.length ≤ 64 * r + 36 := by
    intro j hj
    have h1 := (Lk.move_l (c := c) (k := k) (kd := kd) (i := i) (on := on) j).2
    have h2 := h.l j hj
    have h3 := (hmid j hj).1
    omega
  refine ⟨⟨fun j hj => by rw [(hout j hj).1]; simp, fun j hj m hm => (by rw [(hout j hj).1] at hm; simp at hm), fun j hj => by rw [(hout j hj).2]; simp, fun j hj m hm => ?_, fun j hj => ?_, fun j hj => ?_, fun j hj => ?_⟩, hlen, hout⟩
  · have hm2 : m ∈ (k.move c kd i on).l j ++ ((k.move c kd i on).s j).out := by
      have : (k.move c kd i on).look.l j = (k.move c kd i on).l j ++ ((k.move c kd i on).s j).out := by
        show wayTo _ _ 2 j = _
        unfold wayTo
        rw [if_pos hj]
      rw [this] at hm
      exact hm
    rcases List.mem_append.1 hm2 with hm3 | hm3
    · exact h.ml j hj m ((Lk.move_l j).1 m hm3)
    · exact (hmid j hj).2 m hm3
  · have : (k.move c kd i on).look.l j = (k.move c kd i on).l j ++ ((k.move c kd i on).s j).out := by
      show wayTo _ _ 2 j = _
      unfold wayTo
      rw [if_pos hj]
    rw [this, List.length_append]
    have := hlen j hj
    omega
  · have := Lk.move_n (c := c) (k := k) (kd := kd) (i := i) (on := on) j
    have := h.n j hj
    show ((k.move c kd i on).n j).length ≤ _
    omega
  · exact Lk.move_t h.t j hj
/-- A frame from nowhere. -/
def Lk.noise (c : Nat → Cfg) (k : Lk) (i : Nat) (m : Msg) : Lk := { k with s := upd k.s i (hearS (c i) m (k.s i)).2 }
theorem Lk.fine_noise (h : k.fine r) (he : ∀ j, j < 2 → (k.s j).out = [] ∧ (k.s j).events = []) (m : Msg) : (k.noise c i m).fine r := by
  have hg : ∀ j, j < 2 → ((k.noise c i m).s j).out.length ≤ 18 ∧ (∀ m' ∈ ((k.noise c i m).s j).out, m'.length ≤ 64) ∧ ((k.noise c i m).s j).events.length ≤ 2 := by
    intro j hj
    obtain ⟨⟨x, x1, x2, x3⟩, y, y1, y2⟩ := upd_grows (s := k.s) (i := i) (hearS_grows (c := c i) m) j
    rw [(he j hj).1, List.nil_append] at x1
    rw [(he j hj).2, List.nil_append] at y1
    show (upd k.s i _ j).out.length ≤ 18 ∧ (∀ m' ∈ (upd k.s i _ j).out, m'.length ≤ 64) ∧ (upd k.s i _ j).events.length ≤ 2
    rw [x1, y1]
    exact ⟨x2, x3, y2⟩
  exact ⟨fun j hj => (hg j hj).1, fun j hj => (hg j hj).2.1, fun j hj => (hg j hj).2.2, h.ml, h.l, h.n, h.t⟩
end
end Go.Proofs.YtkalonhalhdlaaaDoor
