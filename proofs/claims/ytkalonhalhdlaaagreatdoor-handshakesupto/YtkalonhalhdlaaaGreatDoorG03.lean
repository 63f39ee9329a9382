import Derived.Test.YtkalonhalhdlaaaGreatDoorG02
import Derived.Maps.AppendAt
import Derived.Test.YtkalonhalhdlaaaGreatDoorG01
import Derived.WalkSpells
import Derived.Laws.IdiomStrings
import Derived.ArgAppend
/-
  What the methods of a station do that only look.
-/
namespace Go.Proofs.YtkalonhalhdlaaaGreatDoor
open Go.RowKit
section
variable {w : World} {own : Nat → Nat} {i b : Nat} {c : Cfg} {s : St} {cl : Bool} {ch : Nat} {q cm o ev : Value} {qe ce oe : List Value}
theorem SAt.drewN (h : SAt w own i b c s cl ch q cm o ev qe ce oe) (n : Nat) : SAt (w.drewN n) own i b c s cl ch q cm o ev qe ce oe :=
  h.others (X := fun _ => False) ((Keeps.refl _ w).drewN n) (fun _ hX => absurd hX id) id (fun _ _ => rfl) h.new0
set_option maxHeartbeats 1000000 in
set_option maxRecDepth 100000 in
theorem ahead_any (h : SAt w own i b c s cl ch q cm o ev qe ce oe) (n : Nat) (hn : n < c.m) :
    Calls Tryz.prog 152 #[.pointer (some ⟨b, 0, none⟩), .int .i64 n] w fun e w' => e = .returned (.int .i64 (ahead c s n : Nat)) ∧ ∃ k, w' = w.drewN k := by
  have c0 := h.c_m
  have c9 := h.c_va
  have hm := h.cok.m
  have ha := h.sok.va
  have hm0 : 0 < c.m := h.cok.pos
  have hm1 : c.m ≤ 128 := by omega
  have hz : ((c.m : Int) == 0) = false := by simp; omega
  have hf : ((n : Int) - s.va + c.m) % c.m = (ahead c s n : Nat) := by
    unfold ahead
    have e : (n : Int) - s.va + c.m = ((n + c.m - s.va : Nat) : Int) := by omega
    rw [e]
    rfl
  have HF := hide hf
  clear hf hm h
  go_enter Tryz.func152, Tryz.ntmps152
  go_wp2
  go_quiet (fail)
  go_wp2
  go_ret
  exact ⟨ret_int (unhide HF), _, rfl⟩
set_option maxHeartbeats 1000000 in
set_option maxRecDepth 100000 in
theorem following_any (h : SAt w own i b c s cl ch q cm o ev qe ce oe) (n : Nat) (hn : n < c.m) :
    Calls Tryz.prog 153 #[.pointer (some ⟨b, 0, none⟩), .int .i64 n] w fun e w' => e = .returned (.int .i64 (follow c n : Nat)) ∧ ∃ k, w' = w.drewN k := by
  have c0 := h.c_m
  have hm := h.cok.m
  have hm0 : 0 < c.m := h.cok.pos
  have hm1 : c.m ≤ 128 := by omega
  have hz : ((c.m : Int) == 0) = false := by simp; omega
  have hf : ((n : Int) + 1) % c.m = (follow c n : Nat) := rfl
  have HF := hide hf
  clear hf hm h
  go_enter Tryz.func153, Tryz.ntmps153
  first | (go_wp2; go_ret; exact ⟨ret_int (unhide HF), 0, rfl⟩) | (go_wp2; go_quiet (fail); go_wp2; go_ret; exact ⟨ret_int (unhide HF), _, rfl⟩)
set_option maxHeartbeats 1000000 in
set_option maxRecDepth 100000 in
theorem isGood_any (h : SAt w own i b c s cl ch q cm o ev qe ce oe) (n : Nat) (hn : n < c.m) :
    Calls Tryz.prog 166 #[.pointer (some ⟨b, 0, none⟩), .int .i64 n] w fun e w' => e = .returned (.bool (isGood c s n)) ∧ ∃ k, w' = w.drewN k := by
  have c11 := h.c_vm
  have k1 := fun j => ahead_any (h.drewN j) n hn
  have k2 := fun j => ahead_any (h.drewN j) s.vm h.sok.vm
  have hf : decide (ahead c s n ≤ ahead c s s.vm) = isGood c s n := rfl
  have HF := hide hf
  clear hf h
  generalize ahead c s n = x at k1 HF
  generalize ahead c s s.vm = y at k2 HF
  go_enter Tryz.func166, Tryz.ntmps166
  go_wp2
  go_quiet (first | (go_at_call_of 152 ((n : Int)); exact Calls.quiet_of (k1 _)) | (go_at_call_of 152 ((s.vm : Int)); exact Calls.quiet_of (k2 _)))
  go_wp2
  go_ret
  exact ⟨ret_bool (unhide HF), _, rfl⟩
set_option maxHeartbeats 1000000 in
set_option maxRecDepth 100000 in
theorem isHeldUp_any (h : SAt w own i b c s cl ch q cm o ev qe ce oe) :
    Calls Tryz.prog 89 #[.pointer (some ⟨b, 0, none⟩)] w fun e w' => e = .returned (.bool (heldUp c s)) ∧ ∃ k, w' = w.drewN k := by
  have c18 := h.c_busy
  have c19 := h.c_cm
  have c4 := h.c_room
  obtain ⟨p, cap, rfl, hc1, hc2⟩ := h.lcm.slice
  have hr := h.sok.came
  have hr2 := h.cok.room16
  have hf : heldUp c s = (s.busy || decide (c.room ≤ s.came.length)) := rfl
  have HF := hide hf
  clear hf
  clear h
  unfold maxLen at hc2
  generalize s.came.length = n at *
  cases hb : s.busy with
  | true =>
    rw [hb] at c18 HF
    go_enter Tryz.func89, Tryz.ntmps89
    go_wp2
    first | (go_ret; exact ⟨ret_bool (unhide HF).symm, 0, rfl⟩) | (go_quiet (fail); go_wp2; go_ret; exact ⟨ret_bool (unhide HF).symm, _, rfl⟩)
  | false =>
    rw [hb] at c18 HF
    have HF2 : Hid (heldUp c s = decide (c.room ≤ n)) := hide (by rw [unhide HF]; simp)
    go_enter Tryz.func89, Tryz.ntmps89
    go_wp2
    first | (go_ret; exact ⟨ret_bool (unhide HF2).symm, 0, rfl⟩) | (go_quiet (fail); go_wp2; go_ret; exact ⟨ret_bool (unhide HF2).symm, _, rfl⟩)
set_option maxHeartbeats 1000000 in
set_option maxRecDepth 100000 in
theorem readiness_any (h : SAt w own i b c s cl ch q cm o ev qe ce oe) :
    Calls Tryz.prog 135 #[.pointer (some ⟨b, 0, none⟩)] w fun e w' => e = .returned (.int .i64 (ready c s : Nat)) ∧ ∃ k, w' = w.drewN k := by
  have k1 := isHeldUp_any h
  have hf : ready c s = if heldUp c s then 3 else 2 := rfl
  have HF := hide hf
  clear hf h
  generalize heldUp c s = x at k1 HF
  cases x with
  | true =>
    have HF2 : Hid ((ready c s : Nat) = 3) := hide (by rw [unhide HF]; rfl)
    go_enter Tryz.func135, Tryz.ntmps135
    go_wp2_with fail
    refine k1.mono ?_
    rintro e w1 ⟨rfl, k, rfl⟩
    go_wp2
    go_ret
    exact ⟨ret_int (by rw [unhide HF2]; rfl), k, rfl⟩
  | false =>
    have HF2 : Hid ((ready c s : Nat) = 2) := hide (by rw [unhide HF]; rfl)
    go_enter Tryz.func135, Tryz.ntmps135
    go_wp2_with fail
    refine k1.mono ?_
    rintro e w1 ⟨rfl, k, rfl⟩
    go_wp2
    go_ret
    exact ⟨ret_int (by rw [unhide HF2]; rfl), k, rfl⟩
set_option maxHeartbeats 1000000 in
set_option maxRecDepth 100000 in
theorem maySendNext_any (h : SAt w own i b c s cl ch q cm o ev qe ce oe) :
    Calls Tryz.prog 130 #[.pointer (some ⟨b, 0, none⟩)] w fun e w' => e = .returned (.bool (maySend c s)) ∧ ∃ k, w' = w.drewN k := by
  have c8 := h.c_vs
  have c16 := h.c_peer
  have c12 := h.c_q
  have c1 := h.c_win
  obtain ⟨p, cap, rfl, hc1, hc2⟩ := h.lq.slice
  have k1 := ahead_any h s.vs h.sok.vs
  have hr := h.sok.q20
  have hr2 := h.cok.win15
  have hf : maySend c s = (!s.peer && (decide (ahead c s s.vs < s.queue.length) && decide (ahead c s s.vs < c.win))) := rfl
  have HF := hide hf
  clear hf h
  unfold maxLen at hc2
  generalize s.queue.length = n at *
  generalize ahead c s s.vs = a at *
  cases hb : s.peer with
  | true =>
    rw [hb] at c16 HF
    go_enter Tryz.func130, Tryz.ntmps130
    go_wp2_with fail
    refine k1.mono ?_
    rintro e w1 ⟨rfl, k, rfl⟩
    go_wp2
    first | (go_ret; exact ⟨ret_bool (unhide HF).symm, k, rfl⟩) | (go_quiet (fail); go_wp2; go_ret; exact ⟨ret_bool (unhide HF).symm, _, World.drewN_drewN ..⟩)
  | false =>
    rw [hb] at c16 HF
    by_cases hlt : a < n
    · have HF2 : Hid (maySend c s = decide (a < c.win)) := hide (by rw [unhide HF]; simp [hlt])
      go_enter Tryz.func130, Tryz.ntmps130
      go_wp2_with fail
      refine k1.mono ?_
      rintro e w1 ⟨rfl, k, rfl⟩
      go_wp2
      first | (go_ret; exact ⟨ret_bool (unhide HF2).symm, k, rfl⟩) | (go_quiet (fail); go_wp2; go_ret; exact ⟨ret_bool (unhide HF2).symm, _, World.drewN_drewN ..⟩)
    · have HF2 : Hid (maySend c s = false) := hide (by rw [unhide HF]; simp [hlt])
      go_enter Tryz.func130, Tryz.ntmps130
      go_wp2_with fail
      refine k1.mono ?_
      rintro e w1 ⟨rfl, k, rfl⟩
      go_wp2
      first | (go_ret; exact ⟨ret_bool (unhide HF2).symm, k, rfl⟩) | (go_quiet (fail); go_wp2; go_ret; exact ⟨ret_bool (unhide HF2).symm, _, World.drewN_drewN ..⟩)
set_option maxHeartbeats 1000000 in
set_option maxRecDepth 100000 in
theorem isCommand_any (h : SAt w own i b c s cl ch q cm o ev qe ce oe) (f : Fr) (fq : Option Addr) (fc : Nat) :
    Calls Tryz.prog 142 #[.pointer (some ⟨b, 0, none⟩), frV f fq fc] w fun e w' => e = .returned (.bool (isCmd c f)) ∧ Below w.heap.size w w' := by
  have c5 := h.c_addr
  have hlt := h.lt
  have hf : isCmd c f = (f.a == (c.addr : Int)) := rfl
  have HF := hide hf
  clear hf h
  unfold frV
  go_enter Tryz.func142, Tryz.ntmps142
  go_wp2
  first | (go_ret; exact ⟨ret_bool (unhide HF).symm, (Below.refl _ w).alloc (Nat.le_refl _) _⟩) | (go_quiet (fail); go_wp2; go_ret; exact ⟨ret_bool (unhide HF).symm, below_drewN ((Below.refl _ w).alloc (Nat.le_refl _) _) _⟩)
end
end Go.Proofs.YtkalonhalhdlaaaGreatDoor

/-
  What the methods of a station do that send a frame, or tell an event.
-/
namespace Go.Proofs.YtkalonhalhdlaaaGreatDoor
open Go.RowKit
theorem infoBytesS : (Tryz.prog.info? 28).map (fun i => (i.zero, i.size, i.bytes)) = some (some (.slice none 0 0), 1, 24) := by kernel_rfl
theorem infoIntS : (Tryz.prog.info? 3).map (fun i => (i.zero, i.size, i.bytes)) = some (some (.int .i64 0), 1, 8) := by kernel_rfl
section
variable {w W : World} {own : Nat → Nat} {i b : Nat} {c : Cfg} {s : St} {cl : Bool} {ch : Nat} {q cm o ev : Value} {qe ce oe : List Value}
theorem row_slice {w : World} {base : Nat} {e : TypeId} {size : Nat} {v : Value} {n : Nat} {xs : List Value} (h : w.ownsRow base e size v n xs) : ∃ p cap, v = .slice p n cap := by
  rcases h.2 with ⟨hv, hn⟩ | ⟨g, cap, cur, hv, _⟩
  · exact ⟨none, 0, by rw [hv, hn]⟩
  · exact ⟨_, cap, hv⟩
theorem one_slice (p : Option Addr) (n cap : Nat) : ∀ u ∈ [Value.slice p n cap], u.oneCell' = true := by
  intro u hu
  simp at hu
  subst hu
  rfl
theorem one_int (k : IntKind) (n : Int) : ∀ u ∈ [Value.int k n], u.oneCell' = true := by
  intro u hu
  simp at hu
  subst hu
  rfl
/-- New blocks are of owner t. -/
def ownNew (own : Nat → Nat) (n n' t : Nat) : Nat → Nat := fun k => if k < n then own k else if k < n' then t else 0
theorem ownNew_old {own : Nat → Nat} {n n' t k : Nat} (h : k < n) : ownNew own n n' t k = own k := by simp [ownNew, h]
theorem ownNew_new {own : Nat → Nat} {n n' t k : Nat} (h : n ≤ k) (h' : k < n') : ownNew own n n' t k = t := by simp [ownNew, show ¬ k < n by omega, h']
theorem ownNew_0 {own : Nat → Nat} {n n' t k : Nat} (h : n ≤ n') (h' : n' ≤ k) : ownNew own n n' t k = 0 := by simp [ownNew, show ¬ k < n by omega, show ¬ k < n' by omega]
/-- Row o has grown by one of its own (new since w), and the station's block is written. -/
theorem SAt.pushed (h : SAt w own i b c s cl ch q cm o ev qe ce oe) {v o' : Value} {m : Msg} {w1 w2 w3 : World}
    (hb : Below w.heap.size w w1) (hv : w1.ownsRow w.heap.size 5 1 v m.length (Lib.byteCells m))
    (hw2 : Below w1.heap.size w1 w2) (hg : w2.grownBy w3 o.ownBlock) (hrow : w3.ownsRow 0 28 1 o' (s.out.length + 1) (oe ++ [v]))
    (hob : o'.ownBlock = o.ownBlock ∨ ∃ k, o'.ownBlock = some k ∧ w2.heap.size ≤ k) :
    SAt (w3.setCell ⟨b, 20, none⟩ o') (ownNew own w.heap.size w3.heap.size (tg i 3)) i b c { s with out := s.out ++ [m] } cl ch q cm o' ev qe ce (oe ++ [v]) ∧ Upd i own (ownNew own w.heap.size w3.heap.size (tg i 3)) w (w3.setCell ⟨b, 20, none⟩ o') := by
  have hz1 := hb.size
  have hz2 := hw2.size
  have hz3 := hg.size
  have hb2 : Below w.heap.size w w2 := hb.trans (hw2.mono hz1)
  have hob' : ∀ k, o'.ownBlock = some k → own k = tg i 3 ∨ w.heap.size ≤ k := by
    intro k hk
    rcases hob with e | ⟨k2, e, h2⟩
    · rw [e] at hk; exact .inl (h.lo.rown k hk)
    · rw [e] at hk; simp at hk; omega
  -- all but the row
  have hK2 : Keeps (fun k => some k = o.ownBlock) w w3 := (Keeps.of hb2).trans (Keeps.grown hg)
  have hro : ∀ k, some k = o.ownBlock → own k = tg i 3 := fun k hk => h.lo.rown k hk.symm
  have hold : ∀ k, k < w.heap.size → ownNew own w.heap.size w3.heap.size (tg i 3) k = own k := fun k hk => ownNew_old hk
  have hbr : ¬ some b = o.ownBlock := fun e => by have := hro b e; rw [h.ownb] at this; exact tg_ne (by omega) (by omega) (.inr (by omega)) this
  have hlt := h.lt
  have hhead3 : w3.heap[b]? = some (.cells (stCells c s ch q cm o ev) 135 (0, 0)) := by rw [hK2.block b hlt hbr]; exact h.head
  have hKb : Keeps (· = b) w3 (w3.setCell ⟨b, 20, none⟩ o') := (Keeps.refl _ w3).setB _ _
  have hK : Keeps (fun k => some k = o.ownBlock ∨ k = b) w (w3.setCell ⟨b, 20, none⟩ o') := (hK2.mono (fun _ h => .inl h)).trans (hKb.mono (fun _ h => .inr h))
  have hne : ∀ p, p < 5 → p ≠ 0 → p ≠ 3 → ∀ k, (some k = o.ownBlock ∨ k = b) → own k ≠ tg i p := by
    intro p hp h0 h3 k hk
    rcases hk with hk | hk
    · rw [hro k hk]; exact tg_ne (by omega) hp (.inr (by omega))
    · rw [hk, h.ownb]; exact tg_ne (by omega) hp (.inr (by omega))
  have hlc := (Array.getElem?_eq_some_iff.1 h.chan).1
  have hcb : ch ≠ b := fun e => by have := h.head; rw [← e, h.chan] at this; simp at this
  have hco : ¬ some ch = o.ownBlock := fun e => by have := hro ch e; rw [h.ownc] at this; exact tg_ne (by omega) (by omega) (.inr (by omega)) this
  have hb3 : b < w3.heap.size := by omega
  have hvlt := World.ownsRow.lt hv
  refine ⟨⟨?_, (hold b hlt).trans h.ownb, ?_, (hold ch hlc).trans h.ownc, h.lq.keeps hK (hne 1 (by omega) (by omega) (by omega)) hold, h.lcm.keeps hK (hne 2 (by omega) (by omega) (by omega)) hold, ?_, ?_, ?_, ?_, (hold 0 h.pos).trans h.own0, fun k hk => ownNew_0 (by omega) (by rw [size_setCell] at hk; exact hk), h.cok, h.sok.out _⟩, ⟨?_, hold⟩⟩
  · exact block_set hhead3 o'
  · rw [hK.block ch hlc (fun hx => by rcases hx with hx | hx; exact hco hx; exact hcb hx)]; exact h.chan
  · refine ⟨?_, ?_, ?_, h.lo.snoc (fun k hk e => by rw [h.new0 k (hvlt k hk).1] at e; exact tg_pos _ _ e.symm)⟩
    · have : (s.out ++ [m]).length = s.out.length + 1 := by simp
      rw [this]
      refine ownsRow_keepsB hrow hKb (fun k hk e => ?_)
      rcases hob' k hk with h1 | h1
      · rw [e, h.ownb] at h1; exact tg_ne (by omega) (by omega) (.inr (by omega)) h1
      · omega
    · intro k hk
      rcases hob with e | ⟨k2, e, h2⟩
      · rw [e] at hk
        have := World.ownsRow.lt h.lo.row k hk
        rw [ownNew_old this.2]
        exact h.lo.rown k hk
      · rw [e] at hk
        simp at hk
        have h4 := (World.ownsRow.lt hrow k2 e).2
        exact ownNew_new (by omega) (by omega)
    · intro j x mm h1 h2
      have hl := h.lo.len
      by_cases hj : j < oe.length
      · rw [List.getElem?_append_left hj] at h1
        rw [List.getElem?_append_left (by omega)] at h2
        have hx := h.lo.each j x mm h1 h2
        refine ⟨ownsRow_keepsB hx.1 hK (fun k hk hX => ?_), fun k hk => (hold k (World.ownsRow.lt hx.1 k hk).2).trans (hx.2 k hk)⟩
        rcases hX with hX | hX
        · -- a row of lists is no row of bytes
          obtain ⟨c1, e1⟩ := ownsRow_isRow h.lo.row hX.symm
          obtain ⟨c2, e2⟩ := ownsRow_isRow hx.1 hk
          rw [e1] at e2
          simp at e2
        · have := hx.2 k hk
          rw [hX, h.ownb] at this
          exact tg_ne (by omega) (by omega) (.inr (by omega)) this
      · rw [List.getElem?_append_right (by omega)] at h1
        rw [List.getElem?_append_right (by omega)] at h2
        rw [hl] at h1
        obtain ⟨jj, hjj⟩ : ∃ jj, j - s.out.length = jj := ⟨_, rfl⟩
        rw [hjj] at h1 h2
        rcases jj with _ | jj
        · simp at h1 h2
          subst h1 h2
          have hv1 : w3.ownsRow w.heap.size 5 1 v m.length (Lib.byteCells m) := by
            refine ownsRow_keepsB (ownsRow_keepsB hv (Keeps.of (X := fun _ => False) hw2) (fun _ _ => id)) (Keeps.grown hg) (fun k hk hX => ?_)
            have h1 := hvlt k hk
            have h2 := World.ownsRow.lt h.lo.row k hX.symm
            omega
          refine ⟨ownsRow_mono (ownsRow_keepsB hv1 hKb (fun k hk e => ?_)) (Nat.zero_le _), fun k hk => ownNew_new (hvlt k hk).1 (World.ownsRow.lt hv1 k hk).2⟩
          have h1 := hvlt k hk
          omega
        · simp at h1
  · exact ownsRow_keepsB h.lev hK (fun k hk hX => hne 4 (by omega) (by omega) (by omega) k hX (h.owne k hk))
  · exact fun k hk => (hold k (World.ownsRow.lt h.lev k hk).2).trans (h.owne k hk)
  · refine h.ctl.keeps hK h.pos (fun hx => ?_)
    rcases hx with hx | hx
    · have := hro 0 hx; rw [h.own0] at this; exact tg_pos _ _ this.symm
    · have := h.ownb; rw [← hx, h.own0] at this; exact tg_pos _ _ this.symm
  · exact hK.mono (fun k hk => by rcases hk with hk | hk; exact ⟨3, by omega, hro k hk⟩; exact ⟨0, by omega, by rw [hk]; exact h.ownb⟩)
theorem SAt.headAfter (h : SAt w own i b c s cl ch q cm o ev qe ce oe) {w1 w3 : World} {x : Obj} {v : Value} (hb : Below w.heap.size w w1) (hg : (w1.alloc x).grownBy w3 v.ownBlock) (hv : ∀ k, v.ownBlock = some k → own k ≠ tg i 0) : w3.heap[b]? = some (.cells (stCells c s ch q cm o ev) 135 (0, 0)) := by
  have hlt := h.lt
  have hz := hb.size
  rw [hg.block b (by rw [alloc1_s]; omega) (fun e => hv b e.symm h.ownb), Below.heap_alloc _ _ _ (by omega), hb.block b hlt]
  exact h.head
set_option maxHeartbeats 4000000 in
set_option maxRecDepth 100000 in
theorem send_any (h : SAt w own i b c s cl ch q cm o ev qe ce oe) (f : Fr) (fq : Option Addr) (fc : Nat) (hsrc : SrcIs w fq f.info) (hl : s.out.length ≤ 2199023255552) :
    Calls Tryz.prog 151 #[.pointer (some ⟨b, 0, none⟩), frV f fq fc] w fun e w' => e = .returned (.tuple #[]) ∧ ∃ own' o' oe', SAt w' own' i b c (put c f s) cl ch q cm o' ev qe ce oe' ∧ Upd i own own' w w' := by
  obtain ⟨i1, hi1, hy0, hy1, hy2⟩ := info_parts infoBytesS
  obtain ⟨op, ocap, rfl, ho1, ho2⟩ := h.lo.slice
  have c0 := h.c_m
  have c20 := h.c_o
  have hlt := h.lt
  have hpos := h.pos
  have hW := fun V (hV : Below w.heap.size w V) => write_any (c.m : Int) f fq fc V (h.ctl.below hV hpos) (Nat.lt_of_lt_of_le hpos hV.size) (hsrc.below hV (Nat.le_refl _))
  have HW := hide hW
  have H := hide h
  clear hW h hsrc
  unfold frV at HW ⊢
  go_enter Tryz.func151, Tryz.ntmps151
  go_wp2_with fail
  go_region_with (go_at_call 32; refine (unhide HW _ ?_).mono ?_; (first | exact (Below.refl _ w).alloc (Nat.le_refl _) _ | exact ((Below.refl _ w).alloc (Nat.le_refl _) _).drew); rintro e w1 ⟨v, rfl, hv, _, hb⟩)
  all_goals
    have hb' : Below w.heap.size w w1 := (((Below.refl _ w).alloc (Nat.le_refl _) _).drew).trans (hb.mono (by simp))
    have hv' := ownsRow_mono hv (show w.heap.size ≤ _ by simp)
    have h1 := (unhide H).later hb'
    have HB := hide hb'
    have HV := hide hv'
    obtain ⟨vp, vcap, hve⟩ := row_slice hv
    subst hve
    have c20' := h1.c_o
    have fz := h1.fz
    have HO := hide (World.ownsRow.alloc h1.lo.row (.cells #[.slice vp (writeL (c.m : Int) f).2.length vcap] 28))
    have HM1 : Hid (s.out.length + 1 ≤ maxLen) := hide (by unfold maxLen; omega)
    have HM2 : Hid ((s.out.length + 1) * 24 ≤ 140737488355328) := hide (by omega)
    clear hb hv hb' hv' h1 c0 c20 HW ho1 ho2
    go_wp2_with (at_builtin; refine wpList_append_own_at _ rfl _ _ 38 rfl 0 28 i1 _ 1 24 Tryz.underlying38 hi1 hy0 hy1 hy2 rfl (by decide) _ _ _ rfl (unhide HO) ⟨w1.heap.size, 0, none⟩ 1 1 [.slice vp (writeL (c.m : Int) f).2.length vcap] rfl rfl (cell_one_new _ _ _) (one_slice _ _ _) (unhide HM1) (unhide HM2) (Nat.zero_le _) ?_)
    intro o' w3 hrow hg _ hob
    obtain ⟨p', cap', hoe'⟩ := row_slice hrow
    subst hoe'
    have h1 := unhide H
    have hb' := unhide HB
    have hh := h1.headAfter hb' hg (fun k hk e => tg_ne (i := i) (j := i) (p := 3) (q := 0) (by omega) (by omega) (.inr (by omega)) ((h1.lo.rown k hk).symm.trans e))
    have hS := h1.pushed hb' (unhide HV) ((Below.refl _ w1).alloc (Nat.le_refl _) _) hg hrow (by rcases hob with e | e; exact .inl e; exact .inr ⟨_, e, by simp⟩)
    have HS := hide hS
    have fz3 : ∀ j, w3.frozen? ⟨b, j, none⟩ = false := fun j => Lib.frozen_of_heap hh j
    have c3 : w3.cell? ⟨b, 20, none⟩ = some (.slice op s.out.length ocap) := by rw [Lib.cell_of_heap hh]; rfl
    clear hS hob hrow hg hh hb' h1 fz c20' HO HV HB H
    go_wp2
    go_end0
    exact ⟨rfl, _, _, _, (unhide HS).1, (unhide HS).2⟩
end
end Go.Proofs.YtkalonhalhdlaaaGreatDoor

/-
  What the methods of a station do that send a frame, or tell an event (further).
-/
namespace Go.Proofs.YtkalonhalhdlaaaGreatDoor
open Go.RowKit
section
variable {w W : World} {own : Nat → Nat} {i b : Nat} {c : Cfg} {s : St} {cl : Bool} {ch : Nat} {q cm o ev : Value} {qe ce oe : List Value}
/-- Row ev has grown by one, and the station's block is written. -/
theorem SAt.told (h : SAt w own i b c s cl ch q cm o ev qe ce oe) {ev' : Value} {n : Nat} {w2 w3 : World}
    (hb2 : Below w.heap.size w w2) (hg : w2.grownBy w3 ev.ownBlock) (hrow : w3.ownsRow 0 3 1 ev' (s.events.length + 1) ((s.events.map fun n => .int .i64 (n : Nat)) ++ [.int .i64 (n : Nat)]))
    (hob : ev'.ownBlock = ev.ownBlock ∨ ∃ k, ev'.ownBlock = some k ∧ w2.heap.size ≤ k) :
    SAt (w3.setCell ⟨b, 21, none⟩ ev') (ownNew own w.heap.size w3.heap.size (tg i 4)) i b c { s with events := s.events ++ [n] } cl ch q cm o ev' qe ce oe ∧ Upd i own (ownNew own w.heap.size w3.heap.size (tg i 4)) w (w3.setCell ⟨b, 21, none⟩ ev') := by
  have hz2 := hb2.size
  have hz3 := hg.size
  have hob' : ∀ k, ev'.ownBlock = some k → own k = tg i 4 ∨ w.heap.size ≤ k := by
    intro k hk
    rcases hob with e | ⟨k2, e, h2⟩
    · rw [e] at hk; exact .inl (h.owne k hk)
    · rw [e] at hk; simp at hk; omega
  have hK2 : Keeps (fun k => some k = ev.ownBlock) w w3 := (Keeps.of hb2).trans (Keeps.grown hg)
  have hro : ∀ k, some k = ev.ownBlock → own k = tg i 4 := fun k hk => h.owne k hk.symm
  have hold : ∀ k, k < w.heap.size → ownNew own w.heap.size w3.heap.size (tg i 4) k = own k := fun k hk => ownNew_old hk
  have hbr : ¬ some b = ev.ownBlock := fun e => by have := hro b e; rw [h.ownb] at this; exact tg_ne (by omega) (by omega) (.inr (by omega)) this
  have hlt := h.lt
  have hhead3 : w3.heap[b]? = some (.cells (stCells c s ch q cm o ev) 135 (0, 0)) := by rw [hK2.block b hlt hbr]; exact h.head
  have hKb : Keeps (· = b) w3 (w3.setCell ⟨b, 21, none⟩ ev') := (Keeps.refl _ w3).setB _ _
  have hK : Keeps (fun k => some k = ev.ownBlock ∨ k = b) w (w3.setCell ⟨b, 21, none⟩ ev') := (hK2.mono (fun _ h => .inl h)).trans (hKb.mono (fun _ h => .inr h))
  have hne : ∀ p, p < 5 → p ≠ 0 → p ≠ 4 → ∀ k, (some k = ev.ownBlock ∨ k = b) → own k ≠ tg i p := by
    intro p hp h0 h3 k hk
    rcases hk with hk | hk
    · rw [hro k hk]; exact tg_ne (by omega) hp (.inr (by omega))
    · rw [hk, h.ownb]; exact tg_ne (by omega) hp (.inr (by omega))
  have hlc := (Array.getElem?_eq_some_iff.1 h.chan).1
  have hcb : ch ≠ b := fun e => by have := h.head; rw [← e, h.chan] at this; simp at this
  have hco : ¬ some ch = ev.ownBlock := fun e => by have := hro ch e; rw [h.ownc] at this; exact tg_ne (by omega) (by omega) (.inr (by omega)) this
  refine ⟨⟨?_, (hold b hlt).trans h.ownb, ?_, (hold ch hlc).trans h.ownc, h.lq.keeps hK (hne 1 (by omega) (by omega) (by omega)) hold, h.lcm.keeps hK (hne 2 (by omega) (by omega) (by omega)) hold, h.lo.keeps hK (hne 3 (by omega) (by omega) (by omega)) hold, ?_, ?_, ?_, (hold 0 h.pos).trans h.own0, fun k hk => ownNew_0 (by omega) (by rw [size_setCell] at hk; exact hk), h.cok, h.sok.events _⟩, ⟨?_, hold⟩⟩
  · exact block_set hhead3 ev'
  · rw [hK.block ch hlc (fun hx => by rcases hx with hx | hx; exact hco hx; exact hcb hx)]; exact h.chan
  · have e1 : (s.events ++ [n]).length = s.events.length + 1 := by simp
    have e2 : ((s.events ++ [n]).map fun n => Value.int .i64 (n : Nat)) = (s.events.map fun n => .int .i64 (n : Nat)) ++ [.int .i64 (n : Nat)] := by simp
    show World.ownsRow _ _ _ _ _ (s.events ++ [n]).length ((s.events ++ [n]).map _)
    rw [e1, e2]
    refine ownsRow_keepsB hrow hKb (fun k hk e => ?_)
    rcases hob' k hk with h1 | h1
    · rw [e, h.ownb] at h1; exact tg_ne (by omega) (by omega) (.inr (by omega)) h1
    · omega
  · intro k hk
    rcases hob with e | ⟨k2, e, h2⟩
    · rw [e] at hk
      have := World.ownsRow.lt h.lev k hk
      rw [ownNew_old this.2]
      exact h.owne k hk
    · rw [e] at hk
      simp at hk
      have h4 := (World.ownsRow.lt hrow k2 e).2
      exact ownNew_new (by omega) (by omega)
  · refine h.ctl.keeps hK h.pos (fun hx => ?_)
    rcases hx with hx | hx
    · have := hro 0 hx; rw [h.own0] at this; exact tg_pos _ _ this.symm
    · have := h.ownb; rw [← hx, h.own0] at this; exact tg_pos _ _ this.symm
  · exact hK.mono (fun k hk => by rcases hk with hk | hk; exact ⟨4, by omega, hro k hk⟩; exact ⟨0, by omega, by rw [hk]; exact h.ownb⟩)
set_option maxHeartbeats 4000000 in
set_option maxRecDepth 100000 in
theorem tell_any (h : SAt w own i b c s cl ch q cm o ev qe ce oe) (n : Nat) (hl : s.events.length ≤ 2199023255552) :
    Calls Tryz.prog 154 #[.pointer (some ⟨b, 0, none⟩), .int .i64 n] w fun e w' => Did i b c (tell n s) cl own w e w' := by
  obtain ⟨i1, hi1, hy0, hy1, hy2⟩ := info_parts infoIntS
  obtain ⟨op, ocap, hoe⟩ := row_slice h.lev
  subst hoe
  have c21 := h.c_ev
  have fz := h.fz
  have hlt := h.lt
  have HO := hide (World.ownsRow.alloc h.lev (.cells #[.int .i64 (n : Nat)] 3))
  have HM1 : Hid (s.events.length + 1 ≤ maxLen) := hide (by unfold maxLen; omega)
  have HM2 : Hid ((s.events.length + 1) * 8 ≤ 140737488355328) := hide (by omega)
  have H := hide h
  clear h
  go_enter Tryz.func154, Tryz.ntmps154
  go_wp2_with (at_builtin; refine wpList_append_own_at _ rfl _ _ 62 rfl 0 3 i1 _ 1 8 Tryz.underlying62 hi1 hy0 hy1 hy2 rfl (by decide) _ _ _ rfl (unhide HO) ⟨w.heap.size, 0, none⟩ 1 1 [.int .i64 (n : Nat)] rfl rfl (cell_one_new _ _ _) (one_int _ _) (unhide HM1) (unhide HM2) (Nat.zero_le _) ?_)
  intro o' w3 hrow hg _ hob
  obtain ⟨p', cap', hoe'⟩ := row_slice hrow
  subst hoe'
  have h1 := unhide H
  have hh := h1.headAfter (Below.refl _ w) hg (fun k hk e => tg_ne (i := i) (j := i) (p := 4) (q := 0) (by omega) (by omega) (.inr (by omega)) ((h1.owne k hk).symm.trans e))
  have hS := h1.told ((Below.refl _ w).alloc (Nat.le_refl _) _) hg hrow (by rcases hob with e | e; exact .inl e; exact .inr ⟨_, e, by simp⟩)
  have HS := hide hS
  have fz3 : ∀ j, w3.frozen? ⟨b, j, none⟩ = false := fun j => Lib.frozen_of_heap hh j
  have c3 : w3.cell? ⟨b, 21, none⟩ = some (.slice op s.events.length ocap) := by rw [Lib.cell_of_heap hh]; rfl
  clear hS hob hrow hg hh h1 fz c21 HO H
  go_wp2
  go_end0
  exact ⟨rfl, _, ⟨_, _, _, _, _, _, _, _, (unhide HS).1⟩, (unhide HS).2⟩
set_option maxHeartbeats 4000000 in
set_option maxRecDepth 100000 in
theorem sendCommand_any (h : SAt w own i b c s cl ch q cm o ev qe ce oe) (f : Fr) (fq : Option Addr) (fc : Nat) (hsrc : SrcIs w fq f.info) (hl : s.out.length ≤ 2199023255552) :
    Calls Tryz.prog 129 #[.pointer (some ⟨b, 0, none⟩), frV f fq fc] w fun e w' => Did i b c (putC c f s) cl own w e w' := by
  have c5 := h.c_addr
  have hlt := h.lt
  have ha := h.cok.addr
  have HS := hide (fun V (hV : Below w.heap.size w V) => send_any (h.later hV) { f with a := 4 - (c.addr : Int) } fq fc (hsrc.below hV (Nat.le_refl _)) hl)
  clear h hsrc
  unfold frV at HS ⊢
  dsimp only at HS
  have ha1 : c.addr ≤ 3 := by omega
  clear ha
  go_enter Tryz.func129, Tryz.ntmps129
  go_wp2_with fail
  refine (unhide HS _ ?_).mono ?_
  · exact (Below.refl _ w).alloc (Nat.le_refl _) _
  rintro e w1 ⟨rfl, own', o', oe', h1, u1⟩
  have HR := hide (And.intro h1 u1)
  clear HS h1 u1
  go_wp2
  go_end0
  exact ⟨rfl, own', ⟨_, _, _, _, _, _, _, _, (unhide HR).1⟩, ((unhide HR).2).of ((Below.refl _ w).alloc (Nat.le_refl _) _)⟩
set_option maxHeartbeats 4000000 in
set_option maxRecDepth 100000 in
theorem sendResponse_any (h : SAt w own i b c s cl ch q cm o ev qe ce oe) (f : Fr) (fq : Option Addr) (fc : Nat) (hsrc : SrcIs w fq f.info) (hl : s.out.length ≤ 2199023255552) :
    Calls Tryz.prog 141 #[.pointer (some ⟨b, 0, none⟩), frV f fq fc] w fun e w' => Did i b c (putR c f s) cl own w e w' := by
  have c5 := h.c_addr
  have hlt := h.lt
  have ha := h.cok.addr
  have HS := hide (fun V (hV : Below w.heap.size w V) => send_any (h.later hV) { f with a := (c.addr : Int) } fq fc (hsrc.below hV (Nat.le_refl _)) hl)
  clear h hsrc
  unfold frV at HS ⊢
  dsimp only at HS
  have ha1 : c.addr ≤ 3 := by omega
  clear ha
  go_enter Tryz.func141, Tryz.ntmps141
  go_wp2_with fail
  refine (unhide HS _ ?_).mono ?_
  · exact (Below.refl _ w).alloc (Nat.le_refl _) _
  rintro e w1 ⟨rfl, own', o', oe', h1, u1⟩
  have HR := hide (And.intro h1 u1)
  clear HS h1 u1
  go_wp2
  go_end0
  exact ⟨rfl, own', ⟨_, _, _, _, _, _, _, _, (unhide HR).1⟩, ((unhide HR).2).of ((Below.refl _ w).alloc (Nat.le_refl _) _)⟩
end
end Go.Proofs.YtkalonhalhdlaaaGreatDoor

/-
  What the methods of a station do that start over.
-/
namespace Go.Proofs.YtkalonhalhdlaaaGreatDoor
open Go.RowKit
section
variable {w W : World} {own : Nat → Nat} {i b : Nat} {c : Cfg} {s : St} {cl : Bool} {ch : Nat} {q cm o ev : Value} {qe ce oe : List Value}
/-- A station's block alone. -/
def HeadAt (w : World) (b : Nat) (c : Cfg) (s : St) (ch : Nat) (q cm o ev : Value) : Prop := w.heap[b]? = some (.cells (stCells c s ch q cm o ev) 135 (0, 0))
theorem HeadAt.state (h : HeadAt w b c s ch q cm o ev) (k : Nat) : HeadAt (w.setCell ⟨b, 7, none⟩ (.int .i64 k)) b c { s with state := k } ch q cm o ev := block_set h _
theorem HeadAt.vs (h : HeadAt w b c s ch q cm o ev) (k : Nat) : HeadAt (w.setCell ⟨b, 8, none⟩ (.int .i64 k)) b c { s with vs := k } ch q cm o ev := block_set h _
theorem HeadAt.va (h : HeadAt w b c s ch q cm o ev) (k : Nat) : HeadAt (w.setCell ⟨b, 9, none⟩ (.int .i64 k)) b c { s with va := k } ch q cm o ev := block_set h _
theorem HeadAt.vr (h : HeadAt w b c s ch q cm o ev) (k : Nat) : HeadAt (w.setCell ⟨b, 10, none⟩ (.int .i64 k)) b c { s with vr := k } ch q cm o ev := block_set h _
theorem HeadAt.vm (h : HeadAt w b c s ch q cm o ev) (k : Nat) : HeadAt (w.setCell ⟨b, 11, none⟩ (.int .i64 k)) b c { s with vm := k } ch q cm o ev := block_set h _
theorem HeadAt.timer (h : HeadAt w b c s ch q cm o ev) (k : Nat) : HeadAt (w.setCell ⟨b, 13, none⟩ (.int .i64 k)) b c { s with timer := k } ch q cm o ev := block_set h _
theorem HeadAt.tries (h : HeadAt w b c s ch q cm o ev) (k : Nat) : HeadAt (w.setCell ⟨b, 14, none⟩ (.int .i64 k)) b c { s with tries := k } ch q cm o ev := block_set h _
theorem HeadAt.polling (h : HeadAt w b c s ch q cm o ev) (k : Bool) : HeadAt (w.setCell ⟨b, 15, none⟩ (.bool k)) b c { s with polling := k } ch q cm o ev := block_set h _
theorem HeadAt.peer (h : HeadAt w b c s ch q cm o ev) (k : Bool) : HeadAt (w.setCell ⟨b, 16, none⟩ (.bool k)) b c { s with peer := k } ch q cm o ev := block_set h _
theorem HeadAt.rejected (h : HeadAt w b c s ch q cm o ev) (k : Bool) : HeadAt (w.setCell ⟨b, 17, none⟩ (.bool k)) b c { s with rejected := k } ch q cm o ev := block_set h _
theorem HeadAt.busy (h : HeadAt w b c s ch q cm o ev) (k : Bool) : HeadAt (w.setCell ⟨b, 18, none⟩ (.bool k)) b c { s with busy := k } ch q cm o ev := block_set h _
theorem HeadAt.lq (h : HeadAt w b c s ch q cm o ev) (k : Value) : HeadAt (w.setCell ⟨b, 12, none⟩ k) b c s ch k cm o ev := block_set h _
theorem HeadAt.lcm (h : HeadAt w b c s ch q cm o ev) (k : Value) : HeadAt (w.setCell ⟨b, 19, none⟩ k) b c s ch q k o ev := block_set h _
theorem HeadAt.lo (h : HeadAt w b c s ch q cm o ev) (k : Value) : HeadAt (w.setCell ⟨b, 20, none⟩ k) b c s ch q cm k ev := block_set h _
theorem HeadAt.lev (h : HeadAt w b c s ch q cm o ev) (k : Value) : HeadAt (w.setCell ⟨b, 21, none⟩ k) b c s ch q cm o k := block_set h _
/-- The block's lists, and what it says of them, apart. -/
theorem HeadAt.as (h : HeadAt w b c s ch q cm o ev) (s' : St) (e : s' = { s with queue := s'.queue, came := s'.came, out := s'.out, events := s'.events }) : HeadAt w b c s' ch q cm o ev := by
  rw [e]
  exact h
theorem SAt.hd (h : SAt w own i b c s cl ch q cm o ev qe ce oe) : HeadAt w b c s ch q cm o ev := h.head
/-- A list stays, or is let go of. -/
def Stays (v v' : Value) (es es' : List Value) (l l' : List Msg) : Prop := (v' = v ∧ es' = es ∧ l' = l) ∨ (v' = .slice none 0 0 ∧ es' = [] ∧ l' = [])
theorem Stays.same {v : Value} {es : List Value} {l : List Msg} : Stays v v es es l l := .inl ⟨rfl, rfl, rfl⟩
theorem Stays.gone {v : Value} {es : List Value} {l : List Msg} : Stays v (.slice none 0 0) es [] l [] := .inr ⟨rfl, rfl, rfl⟩
theorem Stays.lst {w : World} {own : Nat → Nat} {t : Nat} {v v' : Value} {es es' : List Value} {l l' : List Msg} (h : Stays v v' es es' l l') (k : Lst w own t v es l) : Lst w own t v' es' l' := by
  rcases h with ⟨rfl, rfl, rfl⟩ | ⟨rfl, rfl, rfl⟩
  · exact k
  · exact Lst.nil _ _ _
/-- Its block is written; its numbers are others, and lists of it are let go of. -/
theorem SAt.wroteL (h : SAt w own i b c s cl ch q cm o ev qe ce oe) {s' : St} {w' : World} {q' cm' o' ev' : Value} {qe' ce' oe' : List Value} (hk : Keeps (· = b) w w') (hh : HeadAt w' b c s' ch q' cm' o' ev')
    (e1 : Stays q q' qe qe' s.queue s'.queue) (e2 : Stays cm cm' ce ce' s.came s'.came) (e3 : Stays o o' oe oe' s.out s'.out) (e4 : (ev' = ev ∧ s'.events = s.events) ∨ (ev' = .slice none 0 0 ∧ s'.events = [])) (hok : s'.fit c) : SAt w' own i b c s' cl ch q' cm' o' ev' qe' ce' oe' := by
  have hne : ∀ p, p ≠ 0 → p < 5 → ∀ k, k = b → own k ≠ tg i p := fun p hp hp5 k hk => by rw [hk, h.ownb]; exact tg_ne (by omega) hp5 (.inr (fun e => hp e.symm))
  have hchb : ch ≠ b := fun e => by have := h.head; rw [← e, h.chan] at this; simp at this
  refine ⟨hh, h.ownb, by rw [hk.block ch (Array.getElem?_eq_some_iff.1 h.chan).1 hchb]; exact h.chan, h.ownc, ?_, ?_, ?_, ?_, ?_, h.ctl.keeps hk h.pos (fun e => ?_), h.own0, fun k hs => h.new0 k (Nat.le_trans hk.size hs), h.cok, hok⟩
  · exact e1.lst (h.lq.keeps hk (hne 1 (by omega) (by omega)) (fun _ _ => rfl))
  · exact e2.lst (h.lcm.keeps hk (hne 2 (by omega) (by omega)) (fun _ _ => rfl))
  · exact e3.lst (h.lo.keeps hk (hne 3 (by omega) (by omega)) (fun _ _ => rfl))
  · rcases e4 with ⟨rfl, e⟩ | ⟨rfl, e⟩
    · rw [e]; exact ownsRow_keepsB h.lev hk (fun k hb hX => hne 4 (by omega) (by omega) k hX (h.owne k hb))
    · rw [e]; exact World.ownsRow_nil _ _ _ _
  · rcases e4 with ⟨rfl, e⟩ | ⟨rfl, e⟩
    · exact h.owne
    · intro k hk; simp [Value.ownBlock] at hk
  · have := h.ownb; rw [← e, h.own0] at this; exact tg_pos _ _ this.symm
theorem over_fit' (hc : c.ok) (h : St.fit c s) : St.fit c (over s) := over_fit hc h s.state h.state 0 0 (Nat.zero_le _) (Nat.zero_le _)
set_option maxHeartbeats 4000000 in
set_option maxRecDepth 100000 in
theorem startOver_any (h : SAt w own i b c s cl ch q cm o ev qe ce oe) :
    Calls Tryz.prog 128 #[.pointer (some ⟨b, 0, none⟩)] w fun e w' => e = .returned (.tuple #[]) ∧ SAt w' own i b c (over s) cl ch (.slice none 0 0) cm o ev [] ce oe ∧ Upd i own own w w' := by
  have c8 := h.c_vs
  have c9 := h.c_va
  have c10 := h.c_vr
  have c11 := h.c_vm
  have c12 := h.c_q
  have c13 := h.c_timer
  have c14 := h.c_tries
  have c15 := h.c_polling
  have c16 := h.c_peer
  have c17 := h.c_rejected
  have fz := h.fz
  have hlt := h.lt
  have H := hide h
  clear h
  go_enter Tryz.func128, Tryz.ntmps128
  go_wp2
  go_end0
  have h := unhide H
  have hK : Keeps (· = b) w _ := ((((((((((Keeps.refl _ w).setB 8 (.int .i64 0)).setB 9 (.int .i64 0)).setB 10 (.int .i64 0)).setB 11 (.int .i64 0)).setB 12 (.slice none 0 0)).setB 13 (.int .i64 0)).setB 14 (.int .i64 0)).setB 15 (.bool false)).setB 16 (.bool false)).setB 17 (.bool false)
  exact ⟨rfl, h.wroteL hK (((((((((((h.hd.vs 0).va 0).vr 0).vm 0).lq _).timer 0).tries 0).polling false).peer false).rejected false).as (over s) rfl) Stays.gone Stays.same Stays.same (.inl ⟨rfl, rfl⟩) (over_fit' h.cok h.sok), h.upd hK⟩
end
end Go.Proofs.YtkalonhalhdlaaaGreatDoor

/-
  What the methods of a station do that start over and send, or tell.
-/
namespace Go.Proofs.YtkalonhalhdlaaaGreatDoor
open Go.RowKit
section
variable {w W : World} {own : Nat → Nat} {i b : Nat} {c : Cfg} {s : St} {cl : Bool} {ch : Nat} {q cm o ev : Value} {qe ce oe : List Value}
theorem infoByteS : (Tryz.prog.info? 5).map (fun i => (i.zero, i.size, i.bytes)) = some (some (.int .u8 0), 1, 1) := by kernel_rfl
theorem make_rowS (n : Nat) (hn : n ≤ 1099511627784) (w : World) : (Instr.makeSlice 28 (.int .i64 (n : Int)) (.int .i64 (n : Int))).run Tryz.prog w = .ok (.slice (some ⟨w.heap.size, 0, none⟩) n n) (w.alloc (.cells (Lib.byteCells (List.replicate n 0)).toArray 5)) := by
  obtain ⟨i0, hi, hz0, hz1, hz2⟩ := info_parts infoByteS
  rw [run_make w 28 5 i0 (.int .u8 0) Tryz.underlying28 hi hz0 .i64 .i64 n n (by omega) (Int.le_refl _) (by rw [hz2]; omega) (by omega)]
  have e : madeCells (Value.cells (.int .u8 0)) ((n : Int).toNat * i0.size) = (Lib.byteCells (List.replicate n 0)).toArray := by
    rw [hz1]
    apply Array.ext
    · simp [size_madeCells, Lib.byteCells]
    · intro j h1 h2
      simp [madeCells, Value.cells, Lib.byteCells, Nat.mod_one]
  rw [e]
  simp
theorem src_zero (n : Nat) (w : World) : SrcIs (w.alloc (.cells (Lib.byteCells (List.replicate n 0)).toArray 5)) (some ⟨w.heap.size, 0, none⟩) (List.replicate n 0) := by
  refine .inr ⟨w.heap.size, 0, rfl, by rw [alloc1_s]; omega, ?_⟩
  intro j hj
  rw [Lib.cell_of_heap (alloc1_a w _)]
  simp only [List.length_replicate] at hj
  simp [Lib.byteCells, hj]
theorem frV_zero (a k : Int) (p : Bool) (ns nr : Int) (n : Nat) (q : Option Addr) : frV ⟨a, k, p, ns, nr, List.replicate n 0⟩ q n = .agg #[.int .i64 a, .int .i64 k, .bool p, .int .i64 ns, .int .i64 nr, .slice q n n] := by
  unfold frV
  simp
theorem box_kept {w w1 : World} {own own1 : Nat → Nat} {i : Nat} {x : Obj} (u : Upd i own own1 (w.alloc x) w1) (h0 : own w.heap.size = 0) : w1.heap[w.heap.size]? = some x := by
  rw [u.keeps.block w.heap.size (by rw [alloc1_s]; omega) (by rintro ⟨p, _, e⟩; rw [h0] at e; exact tg_pos _ _ e.symm)]
  exact alloc1_a w x
theorem frBox {w : World} {B : Nat} {a b c d e f : Value} {t : TypeId} (h : w.heap[B]? = some (.cells #[a, b, c, d, e, f] t (0, 0))) :
    w.cell? ⟨B, 0, none⟩ = some a ∧ w.cell? ⟨B, 1, none⟩ = some b ∧ w.cell? ⟨B, 2, none⟩ = some c ∧ w.cell? ⟨B, 3, none⟩ = some d ∧ w.cell? ⟨B, 4, none⟩ = some e ∧ w.cell? ⟨B, 5, none⟩ = some f := by
  refine ⟨?_, ?_, ?_, ?_, ?_, ?_⟩ <;> (rw [Lib.cell_of_heap h]; rfl)
theorem src_nil (w : World) : SrcIs w none [] := .inl ⟨rfl, rfl⟩
theorem frV_bare (a k : Int) (p : Bool) (ns nr : Int) : frV ⟨a, k, p, ns, nr, []⟩ none 0 = .agg #[.int .i64 a, .int .i64 k, .bool p, .int .i64 ns, .int .i64 nr, .slice none 0 0] := rfl
set_option maxHeartbeats 4000000 in
set_option maxRecDepth 100000 in
theorem ask_any (h : SAt w own i b c s cl ch q cm o ev qe ce oe) (state kind : Nat) (hst : state = 1 ∨ state = 3) (hl : s.out.length ≤ 2199023255552) :
    Calls Tryz.prog 97 #[.pointer (some ⟨b, 0, none⟩), .int .i64 state, .int .i64 kind] w fun e w' => Did i b c (ask c state kind s) cl own w e w' := by
  have HS := hide (startOver_any h)
  have hlt := h.lt
  clear h
  go_enter Tryz.func97, Tryz.ntmps97
  go_wp2_with fail
  refine (unhide HS).mono ?_
  rintro e w1 ⟨rfl, h1, u1⟩
  have c2 := h1.c_tim
  have fz := h1.fz
  have c7 := h1.c_state
  have c13 := h1.c_timer
  have c14 := h1.c_tries
  have hlt1 := h1.lt
  have hK : Keeps (· = b) w1 _ := (((Keeps.refl _ w1).setB 7 (.int .i64 state)).setB 14 (.int .i64 1)).setB 13 (.int .i64 c.tim)
  have h2 := h1.wroteL hK ((((h1.hd.state state).tries 1).timer c.tim).as { over s with state := state, tries := 1, timer := c.tim } rfl) Stays.same Stays.same Stays.same (.inl ⟨rfl, rfl⟩) (over_fit h1.cok h1.sok state (by omega) c.tim 1 (Nat.le_refl _) h1.cok.tri1)
  have k3 := sendCommand_any h2 ⟨0, kind, true, 0, 0, []⟩ none 0 (src_nil _) hl
  rw [frV_bare] at k3
  have H3 := hide k3
  have HU := hide (u1.trans (h1.upd hK))
  clear k3 h2 hK u1 h1 HS
  go_wp2_with fail
  refine (unhide H3).mono ?_
  rintro e w2 ⟨rfl, own2, h3, u3⟩
  have HR := hide (And.intro h3 ((unhide HU).trans u3))
  clear h3 u3 H3 HU c2 fz c7 c13 c14
  go_wp2
  go_end0
  exact ⟨rfl, _, (unhide HR).1, (unhide HR).2⟩
set_option maxHeartbeats 4000000 in
set_option maxRecDepth 100000 in
theorem call_any (h : SAt w own i b c s cl ch q cm o ev qe ce oe) (hl : s.out.length ≤ 2199023255552) :
    Calls Tryz.prog 95 #[.pointer (some ⟨b, 0, none⟩)] w fun e w' => Did i b c (callS c s) cl own w e w' := by
  have HS := hide (ask_any h 1 5 (.inl rfl) hl)
  clear h
  go_enter Tryz.func95, Tryz.ntmps95
  go_wp2_with fail
  refine (unhide HS).mono ?_
  rintro e w1 ⟨rfl, own2, h3, u3⟩
  have HR := hide (And.intro h3 u3)
  clear h3 u3 HS
  go_wp2
  go_end0
  exact ⟨rfl, _, (unhide HR).1, (unhide HR).2⟩
set_option maxHeartbeats 4000000 in
set_option maxRecDepth 100000 in
theorem goDown_any (h : SAt w own i b c s cl ch q cm o ev qe ce oe) (n : Nat) (hl : s.events.length ≤ 2199023255552) :
    Calls Tryz.prog 134 #[.pointer (some ⟨b, 0, none⟩), .int .i64 n] w fun e w' => Did i b c (goDown n s) cl own w e w' := by
  have HS := hide (startOver_any h)
  have hlt := h.lt
  clear h
  go_enter Tryz.func134, Tryz.ntmps134
  go_wp2_with fail
  refine (unhide HS).mono ?_
  rintro e w1 ⟨rfl, h1, u1⟩
  have fz := h1.fz
  have c7 := h1.c_state
  have hlt1 := h1.lt
  have hK : Keeps (· = b) w1 _ := (Keeps.refl _ w1).setB 7 (.int .i64 (0 : Nat))
  have h2 := h1.wroteL hK ((h1.hd.state 0).as { over s with state := 0 } rfl) Stays.same Stays.same Stays.same (.inl ⟨rfl, rfl⟩) (over_fit h1.cok h1.sok 0 (by omega) 0 0 (Nat.zero_le _) (Nat.zero_le _))
  have H3 := hide (tell_any h2 n hl)
  have HU := hide (u1.trans (h1.upd hK))
  clear h2 hK u1 h1 HS
  go_wp2_with fail
  refine (unhide H3).mono ?_
  rintro e w2 ⟨rfl, own2, h3, u3⟩
  have HR := hide (And.intro h3 ((unhide HU).trans u3))
  clear h3 u3 H3 HU c7 fz
  go_wp2
  go_end0
  exact ⟨rfl, _, (unhide HR).1, (unhide HR).2⟩
set_option maxHeartbeats 4000000 in
set_option maxRecDepth 100000 in
theorem comeUp_any (h : SAt w own i b c s cl ch q cm o ev qe ce oe) (n : Nat) (hl : s.events.length ≤ 2199023255552) :
    Calls Tryz.prog 161 #[.pointer (some ⟨b, 0, none⟩), .int .i64 n] w fun e w' => Did i b c (comeUp n s) cl own w e w' := by
  have HS := hide (startOver_any h)
  have hlt := h.lt
  clear h
  go_enter Tryz.func161, Tryz.ntmps161
  go_wp2_with fail
  refine (unhide HS).mono ?_
  rintro e w1 ⟨rfl, h1, u1⟩
  have fz := h1.fz
  have c7 := h1.c_state
  have hlt1 := h1.lt
  have hK : Keeps (· = b) w1 _ := (Keeps.refl _ w1).setB 7 (.int .i64 (2 : Nat))
  have h2 := h1.wroteL hK ((h1.hd.state 2).as { over s with state := 2 } rfl) Stays.same Stays.same Stays.same (.inl ⟨rfl, rfl⟩) (over_fit h1.cok h1.sok 2 (by omega) 0 0 (Nat.zero_le _) (Nat.zero_le _))
  have H3 := hide (tell_any h2 n hl)
  have HU := hide (u1.trans (h1.upd hK))
  clear h2 hK u1 h1 HS
  go_wp2_with fail
  refine (unhide H3).mono ?_
  rintro e w2 ⟨rfl, own2, h3, u3⟩
  have HR := hide (And.intro h3 ((unhide HU).trans u3))
  clear h3 u3 H3 HU c7 fz
  go_wp2
  go_end0
  exact ⟨rfl, _, (unhide HR).1, (unhide HR).2⟩
set_option maxHeartbeats 4000000 in
set_option maxRecDepth 100000 in
theorem respond_any (h : SAt w own i b c s cl ch q cm o ev qe ce oe) (k : Nat) (f : Fr) (fq : Option Addr) (fc : Nat) (hl : s.out.length ≤ 2199023255552) :
    Calls Tryz.prog 160 #[.pointer (some ⟨b, 0, none⟩), .int .i64 k, frV f fq fc] w fun e w' => Did i b c (respond c k f.p s) cl own w e w' := by
  have hlt := h.lt
  have hk := fun V (hV : Below w.heap.size w V) => sendResponse_any (h.later hV) ⟨0, k, f.p, 0, 0, []⟩ none 0 (src_nil _) hl
  simp only [frV_bare] at hk
  have HS := hide hk
  clear h hk
  unfold frV
  go_enter Tryz.func160, Tryz.ntmps160
  go_wp2_with fail
  refine (unhide HS _ ?_).mono ?_
  · exact (Below.refl _ w).alloc (Nat.le_refl _) _
  rintro e w1 ⟨rfl, own2, h3, u3⟩
  have HR := hide (And.intro h3 (u3.of ((Below.refl _ w).alloc (Nat.le_refl _) _)))
  clear h3 u3 HS
  go_wp2
  go_end0
  exact ⟨rfl, _, (unhide HR).1, (unhide HR).2⟩
set_option maxHeartbeats 4000000 in
set_option maxRecDepth 100000 in
theorem answer_any (h : SAt w own i b c s cl ch q cm o ev qe ce oe) (p : Bool) (hl : s.out.length ≤ 2199023255552) :
    Calls Tryz.prog 119 #[.pointer (some ⟨b, 0, none⟩), .bool p] w fun e w' => Did i b c (answer c p s) cl own w e w' := by
  have hlt := h.lt
  have c10 := h.c_vr
  have HR1 := hide (fun V (hV : Below w.heap.size w V) => readiness_any (h.later hV))
  have hk := fun V (hV : Below w.heap.size w V) => sendResponse_any (h.later hV) ⟨0, ready c s, p, 0, s.vr, []⟩ none 0 (src_nil _) hl
  simp only [frV_bare] at hk
  have HS := hide hk
  clear h hk
  go_enter Tryz.func119, Tryz.ntmps119
  go_wp2_with fail
  go_region_with (first | (go_at_call 135; refine (unhide HR1 _ ?_).mono ?_; (first | exact Below.refl _ _ | exact (Below.refl _ w).drew); rintro e w1 ⟨rfl, k, rfl⟩) | (go_at_call 141; refine (unhide HS _ ?_).mono ?_; (first | exact Below.refl _ _ | exact (Below.refl _ w).drew | exact below_drewN (Below.refl _ w) _); rintro e w2 ⟨rfl, own2, h3, u3⟩))
  all_goals
    have HR := hide (And.intro h3 (Upd.of (w := w) (by first | exact Below.refl _ _ | exact (Below.refl _ w).drew | exact below_drewN (Below.refl _ w) _) u3))
    clear h3 u3 HS
    go_wp2
    go_end0
    exact ⟨rfl, _, (unhide HR).1, (unhide HR).2⟩
set_option maxHeartbeats 4000000 in
set_option maxRecDepth 100000 in
theorem report_any (h : SAt w own i b c s cl ch q cm o ev qe ce oe) (p : Bool) (hl : s.out.length ≤ 2199023255552) :
    Calls Tryz.prog 164 #[.pointer (some ⟨b, 0, none⟩), .bool p] w fun e w' => Did i b c (report c p s) cl own w e w' := by
  have hlt := h.lt
  have c0 := h.c_m
  have hm := h.cok.m
  obtain ⟨n, hn, hn5⟩ : ∃ n : Nat, repN c.m = n ∧ n ≤ 5 := by
    rcases hm with e | e
    · exact ⟨3, by rw [e]; rfl, by omega⟩
    · exact ⟨5, by rw [e]; rfl, by omega⟩
  have k1 := reportBytes_any (c.m : Int) w
  rw [hn] at k1
  have hpost : report c p s = putR c ⟨0, 9, p, 0, 0, List.replicate n 0⟩ s := by unfold report; rw [hn]; rfl
  have hbl : Below w.heap.size w (w.alloc (.cells (Lib.byteCells (List.replicate n 0)).toArray 5)) := (Below.refl _ w).alloc (Nat.le_refl _) _
  have k2 := sendResponse_any (h.later hbl) ⟨0, 9, p, 0, 0, List.replicate n 0⟩ (some ⟨w.heap.size, 0, none⟩) n (src_zero n w) hl
  rw [frV_zero] at k2
  have H1 := hide k1
  have H2 := hide k2
  have hmk := make_rowS n (by omega) w
  rw [hpost]
  generalize hz : (Lib.byteCells (List.replicate n 0)).toArray = zs at H2 hmk hbl
  have HB := hide hbl
  clear h k1 k2 hpost hn hz hbl hm
  go_enter Tryz.func164, Tryz.ntmps164
  go_wp2_with fail
  refine (unhide H1).mono ?_
  rintro e w1 ⟨rfl, rfl⟩
  go_wp2_with fail
  refine (unhide H2).mono ?_
  rintro e w2 ⟨rfl, own2, h3, u3⟩
  have HR := hide (And.intro h3 (Upd.of (unhide HB) u3))
  clear h3 u3 H2 HB hmk
  go_wp2
  go_end0
  exact ⟨rfl, _, (unhide HR).1, (unhide HR).2⟩
set_option maxHeartbeats 4000000 in
set_option maxRecDepth 100000 in
theorem accept_any (h : SAt w own i b c s cl ch q cm o ev qe ce oe) (n : Nat) (f : Fr) (fq : Option Addr) (fc : Nat) (hl : s.out.length ≤ 2199023255552) (hl2 : s.events.length ≤ 2199023255552) :
    Calls Tryz.prog 159 #[.pointer (some ⟨b, 0, none⟩), frV f fq fc, .int .i64 n] w fun e w' => Did i b c (accept c f.p n s) cl own w e w' := by
  have hlt := h.lt
  have hn0 := h.new0 w.heap.size (Nat.le_refl _)
  have HS := hide (fun V (hV : Below w.heap.size w V) => comeUp_any (h.later hV) n hl2)
  clear h
  unfold frV
  go_enter Tryz.func159, Tryz.ntmps159
  go_wp2_with fail
  refine (unhide HS _ ?_).mono ?_
  · exact (Below.refl _ w).alloc (Nat.le_refl _) _
  rintro e w1 ⟨rfl, own1, ⟨ch1, q1, cm1, o1, ev1, qe1, ce1, oe1, h1⟩, u1⟩
  obtain ⟨y0, y1, y2, y3, y4, y5⟩ := frBox (box_kept u1 hn0)
  have hk := respond_any h1 7 f fq fc hl
  unfold frV at hk
  have H2 := hide hk
  have HU := hide (u1.of ((Below.refl _ w).alloc (Nat.le_refl _) _))
  clear hk h1 u1 HS
  go_wp2_with fail
  refine (unhide H2).mono ?_
  rintro e w2 ⟨rfl, own2, h3, u3⟩
  have HR := hide (And.intro h3 ((unhide HU).trans u3))
  clear h3 u3 H2 HU y0 y1 y2 y3 y4 y5
  go_wp2
  go_end0
  exact ⟨rfl, _, (unhide HR).1, (unhide HR).2⟩
set_option maxHeartbeats 4000000 in
set_option maxRecDepth 100000 in
theorem agree_any (h : SAt w own i b c s cl ch q cm o ev qe ce oe) (f : Fr) (fq : Option Addr) (fc : Nat) (hl : s.out.length ≤ 2199023255552) (hl2 : s.events.length ≤ 2199023255552) :
    Calls Tryz.prog 162 #[.pointer (some ⟨b, 0, none⟩), frV f fq fc] w fun e w' => Did i b c (agree c f.p s) cl own w e w' := by
  have hlt := h.lt
  have hk := fun V (hV : Below w.heap.size w V) => respond_any (h.later hV) 7 f fq fc hl
  unfold frV at hk ⊢
  have HS := hide hk
  clear h hk
  go_enter Tryz.func162, Tryz.ntmps162
  go_wp2_with fail
  refine (unhide HS _ ?_).mono ?_
  · exact (Below.refl _ w).alloc (Nat.le_refl _) _
  rintro e w1 ⟨rfl, own1, ⟨ch1, q1, cm1, o1, ev1, qe1, ce1, oe1, h1⟩, u1⟩
  have H2 := hide (goDown_any h1 3 hl2)
  have HU := hide (u1.of ((Below.refl _ w).alloc (Nat.le_refl _) _))
  clear h1 u1 HS
  go_wp2_with fail
  refine (unhide H2).mono ?_
  rintro e w2 ⟨rfl, own2, h3, u3⟩
  have HR := hide (And.intro h3 ((unhide HU).trans u3))
  clear h3 u3 H2 HU
  go_wp2
  go_end0
  exact ⟨rfl, _, (unhide HR).1, (unhide HR).2⟩
end
end Go.Proofs.YtkalonhalhdlaaaGreatDoor

/-
  What one call of tetherlaw.whole does.
-/
namespace Go.Proofs.YtkalonhalhdlaaaGreatDoor
open Go.RowKit
theorem bytes_eql_nil (a : Option Addr) (n c : Nat) (w : World) : (binOp .eql 28 (.slice a n c) (.slice none 0 0)).run Tryz.prog w = .ok (.bool a.isNone) w :=
  Lib.run_eql_slice_nil w 28 5 a n c 0 0 Tryz.underlying28
theorem seg_string {w : World} {b off cap : Nat} {l : List UInt8} (h : Seg w b off l) : (convert 28 9 (.slice (some ⟨b, off, none⟩) l.length cap)).run Tryz.prog w = .ok (.string ⟨l.toArray⟩) w :=
  run_convert_bytes_back w 28 9 5 ⟨b, off, none⟩ cap l Tryz.underlying28 Tryz.underlying5 Tryz.underlying9 (fun j hj => by
    rw [Go.WideShapes.add_plain, h j hj]
    simp [List.getD, hj])
theorem whole_get (s : ByteArray) (k : Nat) (hk : s.size ≤ k) (hk8 : k < s.size + 8) : (List.replicate k (1 : UInt8) ++ (lentL s).drop k).getD k 0 = 77 := by
  have e : s.data.toList.length = s.size := by simp
  simp only [List.getD]
  rw [List.getElem?_append_right (by simp), List.length_replicate, Nat.sub_self, List.getElem?_drop, Nat.add_zero, lentL, List.getElem?_append_right (by omega), e]
  rw [List.getElem?_replicate, if_pos (by omega)]
  rfl
theorem whole_put (s : ByteArray) (k : Nat) (hk8 : k < s.size + 8) : (List.replicate k (1 : UInt8) ++ (lentL s).drop k).set k 1 = List.replicate (k + 1) 1 ++ (lentL s).drop (k + 1) := by
  have hl := lentL_length s
  rw [List.set_append_right _ _ (by simp), List.length_replicate, Nat.sub_self, List.drop_eq_getElem_cons (by omega), List.set_cons_zero]
  rw [List.replicate_succ', List.append_assoc]
  rfl
set_option maxHeartbeats 2000000 in
set_option maxRecDepth 100000 in
theorem whole_nil (s : ByteArray) (w : World) :
    Calls Tryz.prog 26 #[.slice none 0 0, .string s] w fun e w' => e = .returned (.bool true) ∧ w' = w := by
  have hq := bytes_eql_nil none 0 0
  go_enter Tryz.func26, Tryz.ntmps26
  go_wp2
  go_ret
  exact ⟨rfl, rfl⟩
set_option maxHeartbeats 2000000 in
set_option maxRecDepth 100000 in
theorem whole_some (g : Nat) (s : ByteArray) (w : World) (hs : s.size ≤ 1099511627776) (hr : RowIs w g (lentL s)) :
    Calls Tryz.prog 26 #[.slice (some ⟨g, 0, none⟩) s.size (s.size + 8), .string s] w fun e w' => e = .returned (.bool true) ∧ Keeps (· = g) w w' ∧ w'.heap.size = w.heap.size := by
  have hq := bytes_eql_nil (some ⟨g, 0, none⟩) s.size (s.size + 8)
  have hcv : (convert 28 9 (.slice (some ⟨g, 0, none⟩) s.size (s.size + 8))).run Tryz.prog w = .ok (.string s) w := by
    have h0 : Seg w g 0 s.data.toList := by
      have := hr.seg.take s.size
      have e : (lentL s).take s.size = s.data.toList := by
        have e2 : s.size = s.data.toList.length := by simp
        rw [lentL, e2, List.take_left]
      rwa [e] at this
    have h1 := seg_string (cap := s.size + 8) h0
    have e2 : s.data.toList.length = s.size := by simp
    rw [e2] at h1
    simpa using h1
  have HR := hide hr
  clear hr
  go_enter Tryz.func26, Tryz.ntmps26
  go_wp2
  go_loopw [7, 8] (fun o v wr => ∃ (k : Nat), k ≤ s.size + 8 ∧ o = .bool true ∧ v = .int .i64 k ∧ RowIs wr g (List.replicate k 1 ++ (lentL s).drop k) ∧ Keeps (· = g) w wr ∧ wr.heap.size = w.heap.size) (fun _ v _ => s.size + 8 - (intOf v).toNat)
  case atStart => exact ⟨0, Nat.zero_le _, by simp, rfl, by simpa using unhide HR, Keeps.refl _ _, rfl⟩
  case round =>
    clear HR hcv
    obtain ⟨k, hk, rfl, rfl, hrow, hkp, hsz⟩ := hrel
    by_cases hlt : k < s.size + 8
    · have c0 := hrow.cell k (by simp [lentL_length]; omega)
      have fz := hrow.fz
      have hput := hrow.set k 1
      rw [whole_put s k hlt] at hput
      have HP := hide hput
      have HB := hide (hkp.setB k (.int .u8 ((1 : UInt8).toNat : Int)))
      have HZ := hide ((size_setCell wr ⟨g, k, none⟩ (.int .u8 ((1 : UInt8).toNat : Int))).trans hsz)
      clear hput
      by_cases hks : k < s.size
      · have g1 : (k : Int) < (s.size : Int) := by omega
        generalize (List.replicate k (1 : UInt8) ++ (lentL s).drop k).getD k 0 = x at c0
        go_wp2
        go_roundw
        case rel => exact ⟨k + 1, hlt, rfl, by go_num, unhide HP, unhide HB, unhide HZ⟩
        case measure => simp [intOf]; omega
      · have g1 : ¬ ((k : Int) < (s.size : Int)) := by omega
        rw [whole_get s k (by omega) hlt] at c0
        go_wp2
        go_roundw
        case rel => exact ⟨k + 1, hlt, rfl, by go_num, unhide HP, unhide HB, unhide HZ⟩
        case measure => simp [intOf]; omega
    · go_wp2
      go_ret
      exact ⟨rfl, hkp, hsz⟩
end Go.Proofs.YtkalonhalhdlaaaGreatDoor

/-
  Lists that hold one mark alone, and append onto such a list: what was marked so in its row stays so.
-/
namespace Go.Proofs.YtkalonhalhdlaaaGreatDoor
open Go.RowKit
/-- k times the cells of one mark. -/
def reps (mk : List Value) (k : Nat) : List Value := (List.replicate k mk).flatten
theorem reps_length (mk : List Value) (k : Nat) : (reps mk k).length = k * mk.length := by
  induction k with
  | zero => simp [reps]
  | succ k ih =>
    have e : reps mk (k + 1) = mk ++ reps mk k := by simp [reps, List.replicate_succ]
    rw [e, List.length_append, ih, Nat.succ_mul]; omega
theorem reps_add (mk : List Value) (a b : Nat) : reps mk (a + b) = reps mk a ++ reps mk b := by
  unfold reps
  rw [← List.flatten_append, List.replicate_append_replicate]
theorem reps_take (mk : List Value) (a b : Nat) (h : a ≤ b) : (reps mk b).take (a * mk.length) = reps mk a := by
  have e : b = a + (b - a) := by omega
  rw [e, reps_add, ← reps_length mk a, List.take_left]
theorem reps_one {mk : List Value} (h : ∀ u ∈ mk, u.oneCell' = true) (k : Nat) : ∀ u ∈ reps mk k, u.oneCell' = true := by
  intro u hu
  simp only [reps, List.mem_flatten, List.mem_replicate] at hu
  obtain ⟨l, ⟨_, rfl⟩, hl⟩ := hu
  exact h u hl
/-- A list of k things, each the mark. -/
def MarksK (w : World) (e : TypeId) (mk : List Value) (v : Value) (k : Nat) : Prop := w.ownsRow 0 e mk.length v k (reps mk k)
theorem MarksK.grown {w w' : World} {e : TypeId} {mk : List Value} {v : Value} {k : Nat} {row : Option Nat} (h : MarksK w e mk v k) (hg : w.grownBy w' row) (hne : v.ownBlock = none ∨ v.ownBlock ≠ row) : MarksK w' e mk v k := World.ownsRow.kept h hg hne
theorem MarksK.pre {w : World} {e : TypeId} {mk : List Value} {g k K cap : Nat} (h : MarksK w e mk (.slice (some ⟨g, 0, none⟩) K cap) K) (hk : k ≤ K) : MarksK w e mk (.slice (some ⟨g, 0, none⟩) k cap) k := by
  rcases h.2 with ⟨hv, _⟩ | ⟨g', cap', cur, hv, hb, hg, hc, hm, hs, ht⟩
  · simp at hv
  · simp only [Value.slice.injEq, Option.some.injEq, Addr.mk.injEq] at hv
    obtain ⟨⟨rfl, _⟩, _, rfl⟩ := hv
    refine ⟨reps_length mk k, .inr ⟨g, cap, cur, rfl, Nat.zero_le _, hg, by omega, hm, hs, ?_⟩⟩
    rw [← reps_take mk k K hk, ← ht, List.take_take]
    congr 1
    exact (Nat.min_eq_left (Nat.mul_le_mul_right _ hk)).symm
theorem wpList_append_marks {P : Program} (w : World) {ops : Array Oper} {rest : List Oper} {o : Oper} {a : Act} {Q : Exit → Act → World → Prop}
    (hg : o.guard = none) (s x : Operand) (t : TypeId) (hop : o.op = Op.call { callee := Callee.builtin Builtin.append, args := #[s, x], argTypes := #[t, t] })
    (e : TypeId) (i : TypeInfo) (z : Value) (bytes : Nat) (mk : List Value) (h1 : P.underlying t = some (.slice e)) (h2 : P.info? e = some i) (h3 : i.zero = some z) (h4 : i.size = mk.length) (h5 : i.bytes = bytes) (h6 : z.cells.size = mk.length) (h7 : 0 < mk.length)
    (ho : ∀ u ∈ mk, u.oneCell' = true)
    (v : Value) (n : Nat) (hs : a.eval s = v) (hown : MarksK w e mk v n) (ad : Addr) (m c : Nat) (hm0 : 0 < m) (hx : a.eval x = .slice (some ad) m c)
    (hc : ∀ j u, (reps mk m)[j]? = some u → w.cell? (ad.add j) = some u) (b1 : n + m ≤ maxLen) (b2 : (n + m) * bytes ≤ 140737488355328)
    (hK : ∀ v' w', MarksK w' e mk v' (n + m) → (∀ u k, MarksK w e mk u k → (u.ownBlock = v.ownBlock → k ≤ n + m) → MarksK w' e mk u k) → w.grownBy w' v.ownBlock →
      (v'.ownBlock = v.ownBlock ∨ ∃ q, v'.ownBlock = some q ∧ w.heap.size ≤ q) → wpList P ops Q rest (a.put o.dst v') w') :
    wpList P ops Q (o :: rest) a w := by
  have hnl : (reps mk m).length = m * mk.length := reps_length mk m
  have hno := reps_one ho m
  have hgrow : ∀ ao cap, v = .slice ao n cap → (ao = none → n = 0 ∧ cap = 0) → cap < n + m → wpList P ops Q (o :: rest) a w := by
    intro ao cap hv hnone hfull
    refine wpList_append_grows w hg s x t hop e i z mk.length bytes h1 h2 h3 h4 h5 h6 h7 ao n cap (reps mk n) (hs.trans hv) hnone (reps_length mk n) ?_ ad m c (reps mk m) hx hnl hc hno hfull b1 b2 ?_
    · intro b hb j u hj
      rw [hv, hb] at hown
      rcases hown.2 with ⟨hv', _⟩ | ⟨g, cp, cur, hv', _⟩
      · simp at hv'
      · simp only [Value.slice.injEq, Option.some.injEq] at hv'
        rw [hv'.1]
        exact World.ownsRow.cells hown (g := g) (by rw [hv'.1]; rfl) j u hj
    · intro v' w' hw' hgr
      rw [← reps_add] at hw'
      refine hK v' w' (ownsRow_mono hw' (Nat.zero_le _)) (fun u k hu _ => hu.grown hgr ?_) ⟨hgr.os, hgr.tape, hgr.output, hgr.size, fun k hk _ => hgr.block k hk (by simp)⟩ ?_
      · cases hub : u.ownBlock with
        | none => exact .inl rfl
        | some q => exact .inr (by simp)
      · rcases hw'.2 with ⟨_, h0⟩ | ⟨g, cp, cur, hv', hb, _⟩
        · omega
        · exact .inr ⟨g, by rw [hv']; rfl, hb⟩
  rcases hown.2 with ⟨hv, hn⟩ | ⟨g, cap, cur, hv, _, hgc, hcap, hmx, hsz, ht⟩
  · exact hgrow none 0 (by rw [hv, hn]) (fun _ => ⟨hn, rfl⟩) (by omega)
  · by_cases hroom : n + m ≤ cap
    · rw [hv] at hown
      refine wpList_append_fits w hg s x t hop 0 e i mk.length h1 h2 h4 g n cap (reps mk n) (hs.trans hv) hown ad m c (reps mk m) hx hnl hc hno hroom ?_
      intro w' hw' hgr
      rw [← reps_add] at hw'
      have hvb : v.ownBlock = some g := by rw [hv]; rfl
      refine hK _ w' hw' (fun u k hu hle => ?_) (by rw [hvb]; exact hgr) (.inl (by rw [hvb]; rfl))
      by_cases hub : u.ownBlock = some g
      · have hk := hle (by rw [hub, hvb])
        rcases hu.2 with ⟨huv, _⟩ | ⟨g2, cap2, cur2, huv, _, hg2, hc2, hm2, hs2, ht2⟩
        · rw [huv] at hub; simp [Value.ownBlock] at hub
        · have eg : g2 = g := by rw [huv] at hub; simpa [Value.ownBlock] using hub
          subst eg
          rw [hgc] at hg2
          simp only [Option.some.injEq, Obj.cells.injEq] at hg2
          have ec : cap2 = cap := by
            have : cap2 * mk.length = cap * mk.length := by rw [← hs2, ← hsz, hg2.1]
            exact Nat.eq_of_mul_eq_mul_right h7 this
          rw [huv, ec]
          exact MarksK.pre hw' hk
      · exact hu.grown hgr (.inr hub)
    · exact hgrow (some ⟨g, 0, none⟩) cap hv (fun h => by simp at h) (by omega)
end Go.Proofs.YtkalonhalhdlaaaGreatDoor
