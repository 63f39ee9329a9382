import Derived.Test.YtkalonhalhdlaaaDoorSBase
import Derived.Maps.AppendAt
import Derived.Test.YtkalonhalhdlaaaDoorFCells
import Derived.Laws.OwnMore
import Derived.Deep.LoopGhost
/-
  What the methods of a station do that send a frame, or tell an event.
-/
namespace Go.Proofs.YtkalonhalhdlaaaDoor
open Go.RowKit

theorem infoBytesS : (Tryd.prog.info? 22).map (fun i => (i.zero, i.size, i.bytes)) = some (some (.slice none 0 0), 1, 24) := by kernel_rfl
theorem infoIntS : (Tryd.prog.info? 3).map (fun i => (i.zero, i.size, i.bytes)) = some (some (.int .i64 0), 1, 8) := by kernel_rfl

section
variable {w W : World} {own : Nat → Nat} {i b : Nat} {c : Cfg} {s : St} {cl : Bool} {ch : Nat} {q cm o ev : Value} {qe ce oe : List Value}

theorem row_slice {w : World} {base : Nat} {e : TypeId} {size : Nat} {v : Value} {n : Nat} {xs : List Value} (h : w.ownsRow base e size v n xs) : ∃ p cap, v = .slice p n cap := by
  rcases h.2 with ⟨hv, hn⟩ | ⟨g, cap, cur, hv, _⟩
  · exact ⟨none, 0, by rw [hv, hn]⟩
  · exact ⟨_, cap, hv⟩
theorem one_slice (p : Option Addr) (n cap : Nat) : ∀ u ∈ [Value.slice p n cap], u.oneCell' = true := by
  intro u hu
  simp at hu
  subst hu
  rfl
theorem one_int (k : IntKind) (n : Int) : ∀ u ∈ [Value.int k n], u.oneCell' = true := by
  intro u hu
  simp at hu
  subst hu
  rfl

/-- New blocks are of owner t. -/
def ownNew (own : Nat → Nat) (n n' t : Nat) : Nat → Nat := fun k => if k < n then own k else if k < n' then t else 0
theorem ownNew_old {own : Nat → Nat} {n n' t k : Nat} (h : k < n) : ownNew own n n' t k = own k := by simp [ownNew, h]
theorem ownNew_new {own : Nat → Nat} {n n' t k : Nat} (h : n ≤ k) (h' : k < n') : ownNew own n n' t k = t := by simp [ownNew, show ¬ k < n by omega, h']
theorem ownNew_0 {own : Nat → Nat} {n n' t k : Nat} (h : n ≤ n') (h' : n' ≤ k) : ownNew own n n' t k = 0 := by simp [ownNew, show ¬ k < n by omega, show ¬ k < n' by omega]

/-- Row o has grown by one of its own (new since w), and the station's block is written. -/
theorem SAt.pushed (h : SAt w own i b c s cl ch q cm o ev qe ce oe) {v o' : Value} {m : Msg} {w1 w2 w3 : World}
    (hb : Below w.heap.size w w1) (hv : w1.ownsRow w.heap.size 5 1 v m.length (Lib.byteCells m))
    (hw2 : Below w1.heap.size w1 w2) (hg : w2.grownBy w3 o.ownBlock) (hrow : w3.ownsRow 0 22 1 o' (s.out.length + 1) (oe ++ [v]))
    (hob : o'.ownBlock = o.ownBlock ∨ ∃ k, o'.ownBlock = some k ∧ w2.heap.size ≤ k) :
    SAt (w3.setCell ⟨b, 20, none⟩ o') (ownNew own w.heap.size w3.heap.size (tg i 3)) i b c { s with out := s.out ++ [m] } cl ch q cm o' ev qe ce (oe ++ [v]) ∧ Upd i own (ownNew own w.heap.size w3.heap.size (tg i 3)) w (w3.setCell ⟨b, 20, none⟩ o') := by
  have hz1 := hb.size
  have hz2 := hw2.size
  have hz3 := hg.size
  have hb2 : Below w.heap.size w w2 := hb.trans (hw2.mono hz1)
  have hob' : ∀ k, o'.ownBlock = some k → own k = tg i 3 ∨ w.heap.size ≤ k := by
    intro k hk
    rcases hob with e | ⟨k2, e, h2⟩
    · rw [e] at hk; exact .inl (h.lo.rown k hk)
    · rw [e] at hk; simp at hk; omega
  -- all but the row
  have hK2 : Keeps (fun k => some k = o.ownBlock) w w3 := (Keeps.of hb2).trans (Keeps.grown hg)
  have hro : ∀ k, some k = o.ownBlock → own k = tg i 3 := fun k hk => h.lo.rown k hk.symm
  have hold : ∀ k, k < w.heap.size → ownNew own w.heap.size w3.heap.size (tg i 3) k = own k := fun k hk => ownNew_old hk
  have hbr : ¬ some b = o.ownBlock := fun e => by have := hro b e; rw [h.ownb] at this; exact tg_ne (by omega) (by omega) (.inr (by omega)) this
  have hlt := h.lt
  have hhead3 : w3.heap[b]? = some (.cells (stCells c s ch q cm o ev) 84 (0, 0)) := by rw [hK2.block b hlt hbr]; exact h.head
  have hKb : Keeps (· = b) w3 (w3.setCell ⟨b, 20, none⟩ o') := (Keeps.refl _ w3).setB _ _
  have hK : Keeps (fun k => some k = o.ownBlock ∨ k = b) w (w3.setCell ⟨b, 20, none⟩ o') := (hK2.mono (fun _ h => .inl h)).trans (hKb.mono (fun _ h => .inr h))
  have hne : ∀ p, p < 5 → p ≠ 0 → p ≠ 3 → ∀ k, (some k = o.ownBlock ∨ k = b) → own k ≠ tg i p := by
    intro p hp h0 h3 k hk
    rcases hk with hk | hk
    · rw [hro k hk]; exact tg_ne (by omega) hp (.inr (by omega))
    · rw [hk, h.ownb]; exact tg_ne (by omega) hp (.inr (by omega))
  have hlc := (Array.getElem?_eq_some_iff.1 h.chan).1
  have hcb : ch ≠ b := fun e => by have := h.head; rw [← e, h.chan] at this; simp at this
  have hco : ¬ some ch = o.ownBlock := fun e => by have := hro ch e; rw [h.ownc] at this; exact tg_ne (by omega) (by omega) (.inr (by omega)) this
  have hb3 : b < w3.heap.size := by omega
  have hvlt := World.ownsRow.lt hv
  refine ⟨⟨?_, (hold b hlt).trans h.ownb, ?_, (hold ch hlc).trans h.ownc, h.lq.keeps hK (hne 1 (by omega) (by omega) (by omega)) hold, h.lcm.keeps hK (hne 2 (by omega) (by omega) (by omega)) hold, ?_, ?_, ?_, ?_, (hold 0 h.pos).trans h.own0, fun k hk => ownNew_0 (by omega) (by rw [size_setCell] at hk; exact hk), h.cok, h.sok.out _⟩, ⟨?_, hold⟩⟩
  · exact block_set hhead3 o'
  · rw [hK.block ch hlc (fun hx => by rcases hx with hx | hx; exact hco hx; exact hcb hx)]; exact h.chan
  · refine ⟨?_, ?_, ?_⟩
    · have : (s.out ++ [m]).length = s.out.length + 1 := by simp
      rw [this]
      refine ownsRow_keepsB hrow hKb (fun k hk e => ?_)
      rcases hob' k hk with h1 | h1
      · rw [e, h.ownb] at h1; exact tg_ne (by omega) (by omega) (.inr (by omega)) h1
      · omega
    · intro k hk
      rcases hob with e | ⟨k2, e, h2⟩
      · rw [e] at hk
        have := World.ownsRow.lt h.lo.row k hk
        rw [ownNew_old this.2]
        exact h.lo.rown k hk
      · rw [e] at hk
        simp at hk
        have h4 := (World.ownsRow.lt hrow k2 e).2
        exact ownNew_new (by omega) (by omega)
    · intro j x mm h1 h2
      have hl := h.lo.len
      by_cases hj : j < oe.length
      · rw [List.getElem?_append_left hj] at h1
        rw [List.getElem?_append_left (by omega)] at h2
        have hx := h.lo.each j x mm h1 h2
        refine ⟨ownsRow_keepsB hx.1 hK (fun k hk hX => ?_), fun k hk => (hold k (World.ownsRow.lt hx.1 k hk).2).trans (hx.2 k hk)⟩
        rcases hX with hX | hX
        · -- a row of lists is no row of bytes
          obtain ⟨c1, e1⟩ := ownsRow_isRow h.lo.row hX.symm
          obtain ⟨c2, e2⟩ := ownsRow_isRow hx.1 hk
          rw [e1] at e2
          simp at e2
        · have := hx.2 k hk
          rw [hX, h.ownb] at this
          exact tg_ne (by omega) (by omega) (.inr (by omega)) this
      · rw [List.getElem?_append_right (by omega)] at h1
        rw [List.getElem?_append_right (by omega)] at h2
        rw [hl] at h1
        obtain ⟨jj, hjj⟩ : ∃ jj, j - s.out.length = jj := ⟨_, rfl⟩
        rw [hjj] at h1 h2
        rcases jj with _ | jj
        · simp at h1 h2
          subst h1 h2
          have hv1 : w3.ownsRow w.heap.size 5 1 v m.length (Lib.byteCells m) := by
            refine ownsRow_keepsB (ownsRow_keepsB hv (Keeps.of (X := fun _ => False) hw2) (fun _ _ => id)) (Keeps.grown hg) (fun k hk hX => ?_)
            have h1 := hvlt k hk
            have h2 := World.ownsRow.lt h.lo.row k hX.symm
            omega
          refine ⟨ownsRow_mono (ownsRow_keepsB hv1 hKb (fun k hk e => ?_)) (Nat.zero_le _), fun k hk => ownNew_new (hvlt k hk).1 (World.ownsRow.lt hv1 k hk).2⟩
          have h1 := hvlt k hk
          omega
        · simp at h1
  · exact ownsRow_keepsB h.lev hK (fun k hk hX => hne 4 (by omega) (by omega) (by omega) k hX (h.owne k hk))
  · exact fun k hk => (hold k (World.ownsRow.lt h.lev k hk).2).trans (h.owne k hk)
  · refine h.ctl.keeps hK h.pos (fun hx => ?_)
    rcases hx with hx | hx
    · have := hro 0 hx; rw [h.own0] at this; exact tg_pos _ _ this.symm
    · have := h.ownb; rw [← hx, h.own0] at this; exact tg_pos _ _ this.symm
  · exact hK.mono (fun k hk => by rcases hk with hk | hk; exact ⟨3, by omega, hro k hk⟩; exact ⟨0, by omega, by rw [hk]; exact h.ownb⟩)

theorem SAt.headAfter (h : SAt w own i b c s cl ch q cm o ev qe ce oe) {w1 w3 : World} {x : Obj} {v : Value} (hb : Below w.heap.size w w1) (hg : (w1.alloc x).grownBy w3 v.ownBlock) (hv : ∀ k, v.ownBlock = some k → own k ≠ tg i 0) : w3.heap[b]? = some (.cells (stCells c s ch q cm o ev) 84 (0, 0)) := by
  have hlt := h.lt
  have hz := hb.size
  rw [hg.block b (by rw [alloc1_s]; omega) (fun e => hv b e.symm h.ownb), Below.heap_alloc _ _ _ (by omega), hb.block b hlt]
  exact h.head

set_option maxHeartbeats 4000000 in
set_option maxRecDepth 100000 in
theorem send_any (h : SAt w own i b c s cl ch q cm o ev qe ce oe) (f : Fr) (fq : Option Addr) (fc : Nat) (hsrc : SrcIs w fq f.info) (hl : s.out.length ≤ 2199023255552) :
    Calls Tryd.prog 83 #[.pointer (some ⟨b, 0, none⟩), frV f fq fc] w fun e w' => e = .returned (.tuple #[]) ∧ ∃ own' o' oe', SAt w' own' i b c (put c f s) cl ch q cm o' ev qe ce oe' ∧ Upd i own own' w w' := by
  obtain ⟨i1, hi1, hy0, hy1, hy2⟩ := info_parts infoBytesS
  obtain ⟨op, ocap, rfl, ho1, ho2⟩ := h.lo.slice
  have c0 := h.c_m
  have c20 := h.c_o
  have hlt := h.lt
  have hpos := h.pos
  have hW := fun V (hV : Below w.heap.size w V) => write_any (c.m : Int) f fq fc V (h.ctl.below hV hpos) (Nat.lt_of_lt_of_le hpos hV.size) (hsrc.below hV (Nat.le_refl _))
  have HW := hide hW
  have H := hide h
  clear hW h hsrc
  unfold frV at HW ⊢
  go_enter Tryd.func83, Tryd.ntmps83
  go_wp2_with fail
  go_region_with (go_at_call 10; refine (unhide HW _ ?_).mono ?_; (first | exact (Below.refl _ w).alloc (Nat.le_refl _) _ | exact ((Below.refl _ w).alloc (Nat.le_refl _) _).drew); rintro e w1 ⟨v, rfl, hv, _, hb⟩)
  all_goals
    have hb' : Below w.heap.size w w1 := (((Below.refl _ w).alloc (Nat.le_refl _) _).drew).trans (hb.mono (by simp))
    have hv' := ownsRow_mono hv (show w.heap.size ≤ _ by simp)
    have h1 := (unhide H).later hb'
    have HB := hide hb'
    have HV := hide hv'
    obtain ⟨vp, vcap, hve⟩ := row_slice hv
    subst hve
    have c20' := h1.c_o
    have fz := h1.fz
    have HO := hide (World.ownsRow.alloc h1.lo.row (.cells #[.slice vp (writeL (c.m : Int) f).2.length vcap] 22))
    have HM1 : Hid (s.out.length + 1 ≤ maxLen) := hide (by unfold maxLen; omega)
    have HM2 : Hid ((s.out.length + 1) * 24 ≤ 140737488355328) := hide (by omega)
    clear hb hv hb' hv' h1 c0 c20 HW ho1 ho2
    go_wp2_with (at_builtin; refine wpList_append_own_at _ rfl _ _ 46 rfl 0 22 i1 _ 1 24 Tryd.underlying46 hi1 hy0 hy1 hy2 rfl (by decide) _ _ _ rfl (unhide HO) ⟨w1.heap.size, 0, none⟩ 1 1 [.slice vp (writeL (c.m : Int) f).2.length vcap] rfl rfl (cell_one_new _ _ _) (one_slice _ _ _) (unhide HM1) (unhide HM2) (Nat.zero_le _) ?_)
    intro o' w3 hrow hg _ hob
    obtain ⟨p', cap', hoe'⟩ := row_slice hrow
    subst hoe'
    have h1 := unhide H
    have hb' := unhide HB
    have hh := h1.headAfter hb' hg (fun k hk e => tg_ne (i := i) (j := i) (p := 3) (q := 0) (by omega) (by omega) (.inr (by omega)) ((h1.lo.rown k hk).symm.trans e))
    have hS := h1.pushed hb' (unhide HV) ((Below.refl _ w1).alloc (Nat.le_refl _) _) hg hrow (by rcases hob with e | e; exact .inl e; exact .inr ⟨_, e, by simp⟩)
    have HS := hide hS
    have fz3 : ∀ j, w3.frozen? ⟨b, j, none⟩ = false := fun j => Lib.frozen_of_heap hh j
    have c3 : w3.cell? ⟨b, 20, none⟩ = some (.slice op s.out.length ocap) := by rw [Lib.cell_of_heap hh]; rfl
    clear hS hob hrow hg hh hb' h1 fz c20' HO HV HB H
    go_wp2
    go_end0
    exact ⟨rfl, _, _, _, (unhide HS).1, (unhide HS).2⟩
end
end Go.Proofs.YtkalonhalhdlaaaDoor

/-
  What the methods of a station do that send a frame, or tell an event (further).
-/
namespace Go.Proofs.YtkalonhalhdlaaaDoor
open Go.RowKit

section
variable {w W : World} {own : Nat → Nat} {i b : Nat} {c : Cfg} {s : St} {cl : Bool} {ch : Nat} {q cm o ev : Value} {qe ce oe : List Value}

/-- Row ev has grown by one, and the station's block is written. -/
theorem SAt.told (h : SAt w own i b c s cl ch q cm o ev qe ce oe) {ev' : Value} {n : Nat} {w2 w3 : World}
    (hb2 : Below w.heap.size w w2) (hg : w2.grownBy w3 ev.ownBlock) (hrow : w3.ownsRow 0 3 1 ev' (s.events.length + 1) ((s.events.map fun n => .int .i64 (n : Nat)) ++ [.int .i64 (n : Nat)]))
    (hob : ev'.ownBlock = ev.ownBlock ∨ ∃ k, ev'.ownBlock = some k ∧ w2.heap.size ≤ k) :
    SAt (w3.setCell ⟨b, 21, none⟩ ev') (ownNew own w.heap.size w3.heap.size (tg i 4)) i b c { s with events := s.events ++ [n] } cl ch q cm o ev' qe ce oe ∧ Upd i own (ownNew own w.heap.size w3.heap.size (tg i 4)) w (w3.setCell ⟨b, 21, none⟩ ev') := by
  have hz2 := hb2.size
  have hz3 := hg.size
  have hob' : ∀ k, ev'.ownBlock = some k → own k = tg i 4 ∨ w.heap.size ≤ k := by
    intro k hk
    rcases hob with e | ⟨k2, e, h2⟩
    · rw [e] at hk; exact .inl (h.owne k hk)
    · rw [e] at hk; simp at hk; omega
  have hK2 : Keeps (fun k => some k = ev.ownBlock) w w3 := (Keeps.of hb2).trans (Keeps.grown hg)
  have hro : ∀ k, some k = ev.ownBlock → own k = tg i 4 := fun k hk => h.owne k hk.symm
  have hold : ∀ k, k < w.heap.size → ownNew own w.heap.size w3.heap.size (tg i 4) k = own k := fun k hk => ownNew_old hk
  have hbr : ¬ some b = ev.ownBlock := fun e => by have := hro b e; rw [h.ownb] at this; exact tg_ne (by omega) (by omega) (.inr (by omega)) this
  have hlt := h.lt
  have hhead3 : w3.heap[b]? = some (.cells (stCells c s ch q cm o ev) 84 (0, 0)) := by rw [hK2.block b hlt hbr]; exact h.head
  have hKb : Keeps (· = b) w3 (w3.setCell ⟨b, 21, none⟩ ev') := (Keeps.refl _ w3).setB _ _
  have hK : Keeps (fun k => some k = ev.ownBlock ∨ k = b) w (w3.setCell ⟨b, 21, none⟩ ev') := (hK2.mono (fun _ h => .inl h)).trans (hKb.mono (fun _ h => .inr h))
  have hne : ∀ p, p < 5 → p ≠ 0 → p ≠ 4 → ∀ k, (some k = ev.ownBlock ∨ k = b) → own k ≠ tg i p := by
    intro p hp h0 h3 k hk
    rcases hk with hk | hk
    · rw [hro k hk]; exact tg_ne (by omega) hp (.inr (by omega))
    · rw [hk, h.ownb]; exact tg_ne (by omega) hp (.inr (by omega))
  have hlc := (Array.getElem?_eq_some_iff.1 h.chan).1
  have hcb : ch ≠ b := fun e => by have := h.head; rw [← e, h.chan] at this; simp at this
  have hco : ¬ some ch = ev.ownBlock := fun e => by have := hro ch e; rw [h.ownc] at this; exact tg_ne (by omega) (by omega) (.inr (by omega)) this
  refine ⟨⟨?_, (hold b hlt).trans h.ownb, ?_, (hold ch hlc).trans h.ownc, h.lq.keeps hK (hne 1 (by omega) (by omega) (by omega)) hold, h.lcm.keeps hK (hne 2 (by omega) (by omega) (by omega)) hold, h.lo.keeps hK (hne 3 (by omega) (by omega) (by omega)) hold, ?_, ?_, ?_, (hold 0 h.pos).trans h.own0, fun k hk => ownNew_0 (by omega) (by rw [size_setCell] at hk; exact hk), h.cok, h.sok.events _⟩, ⟨?_, hold⟩⟩
  · exact block_set hhead3 ev'
  · rw [hK.block ch hlc (fun hx => by rcases hx with hx | hx; exact hco hx; exact hcb hx)]; exact h.chan
  · have e1 : (s.events ++ [n]).length = s.events.length + 1 := by simp
    have e2 : ((s.events ++ [n]).map fun n => Value.int .i64 (n : Nat)) = (s.events.map fun n => .int .i64 (n : Nat)) ++ [.int .i64 (n : Nat)] := by simp
    show World.ownsRow _ _ _ _ _ (s.events ++ [n]).length ((s.events ++ [n]).map _)
    rw [e1, e2]
    refine ownsRow_keepsB hrow hKb (fun k hk e => ?_)
    rcases hob' k hk with h1 | h1
    · rw [e, h.ownb] at h1; exact tg_ne (by omega) (by omega) (.inr (by omega)) h1
    · omega
  · intro k hk
    rcases hob with e | ⟨k2, e, h2⟩
    · rw [e] at hk
      have := World.ownsRow.lt h.lev k hk
      rw [ownNew_old this.2]
      exact h.owne k hk
    · rw [e] at hk
      simp at hk
      have h4 := (World.ownsRow.lt hrow k2 e).2
      exact ownNew_new (by omega) (by omega)
  · refine h.ctl.keeps hK h.pos (fun hx => ?_)
    rcases hx with hx | hx
    · have := hro 0 hx; rw [h.own0] at this; exact tg_pos _ _ this.symm
    · have := h.ownb; rw [← hx, h.own0] at this; exact tg_pos _ _ this.symm
  · exact hK.mono (fun k hk => by rcases hk with hk | hk; exact ⟨4, by omega, hro k hk⟩; exact ⟨0, by omega, by rw [hk]; exact h.ownb⟩)

set_option maxHeartbeats 4000000 in
set_option maxRecDepth 100000 in
theorem tell_any (h : SAt w own i b c s cl ch q cm o ev qe ce oe) (n : Nat) (hl : s.events.length ≤ 2199023255552) :
    Calls Tryd.prog 80 #[.pointer (some ⟨b, 0, none⟩), .int .i64 n] w fun e w' => Did i b c (tell n s) cl own w e w' := by
  obtain ⟨i1, hi1, hy0, hy1, hy2⟩ := info_parts infoIntS
  obtain ⟨op, ocap, hoe⟩ := row_slice h.lev
  subst hoe
  have c21 := h.c_ev
  have fz := h.fz
  have hlt := h.lt
  have HO := hide (World.ownsRow.alloc h.lev (.cells #[.int .i64 (n : Nat)] 3))
  have HM1 : Hid (s.events.length + 1 ≤ maxLen) := hide (by unfold maxLen; omega)
  have HM2 : Hid ((s.events.length + 1) * 8 ≤ 140737488355328) := hide (by omega)
  have H := hide h
  clear h
  go_enter Tryd.func80, Tryd.ntmps80
  go_wp2_with (at_builtin; refine wpList_append_own_at _ rfl _ _ 63 rfl 0 3 i1 _ 1 8 Tryd.underlying63 hi1 hy0 hy1 hy2 rfl (by decide) _ _ _ rfl (unhide HO) ⟨w.heap.size, 0, none⟩ 1 1 [.int .i64 (n : Nat)] rfl rfl (cell_one_new _ _ _) (one_int _ _) (unhide HM1) (unhide HM2) (Nat.zero_le _) ?_)
  intro o' w3 hrow hg _ hob
  obtain ⟨p', cap', hoe'⟩ := row_slice hrow
  subst hoe'
  have h1 := unhide H
  have hh := h1.headAfter (Below.refl _ w) hg (fun k hk e => tg_ne (i := i) (j := i) (p := 4) (q := 0) (by omega) (by omega) (.inr (by omega)) ((h1.owne k hk).symm.trans e))
  have hS := h1.told ((Below.refl _ w).alloc (Nat.le_refl _) _) hg hrow (by rcases hob with e | e; exact .inl e; exact .inr ⟨_, e, by simp⟩)
  have HS := hide hS
  have fz3 : ∀ j, w3.frozen? ⟨b, j, none⟩ = false := fun j => Lib.frozen_of_heap hh j
  have c3 : w3.cell? ⟨b, 21, none⟩ = some (.slice op s.events.length ocap) := by rw [Lib.cell_of_heap hh]; rfl
  clear hS hob hrow hg hh h1 fz c21 HO H
  go_wp2
  go_end0
  exact ⟨rfl, _, ⟨_, _, _, _, _, _, _, _, (unhide HS).1⟩, (unhide HS).2⟩

set_option maxHeartbeats 4000000 in
set_option maxRecDepth 100000 in
theorem sendCommand_any (h : SAt w own i b c s cl ch q cm o ev qe ce oe) (f : Fr) (fq : Option Addr) (fc : Nat) (hsrc : SrcIs w fq f.info) (hl : s.out.length ≤ 2199023255552) :
    Calls Tryd.prog 68 #[.pointer (some ⟨b, 0, none⟩), frV f fq fc] w fun e w' => Did i b c (putC c f s) cl own w e w' := by
  have c5 := h.c_addr
  have hlt := h.lt
  have ha := h.cok.addr
  have HS := hide (fun V (hV : Below w.heap.size w V) => send_any (h.later hV) { f with a := 4 - (c.addr : Int) } fq fc (hsrc.below hV (Nat.le_refl _)) hl)
  clear h hsrc
  unfold frV at HS ⊢
  dsimp only at HS
  have ha1 : c.addr ≤ 3 := by omega
  clear ha
  go_enter Tryd.func68, Tryd.ntmps68
  go_wp2_with fail
  refine (unhide HS _ ?_).mono ?_
  · exact (Below.refl _ w).alloc (Nat.le_refl _) _
  rintro e w1 ⟨rfl, own', o', oe', h1, u1⟩
  have HR := hide (And.intro h1 u1)
  clear HS h1 u1
  go_wp2
  go_end0
  exact ⟨rfl, own', ⟨_, _, _, _, _, _, _, _, (unhide HR).1⟩, ((unhide HR).2).of ((Below.refl _ w).alloc (Nat.le_refl _) _)⟩

set_option maxHeartbeats 4000000 in
set_option maxRecDepth 100000 in
theorem sendResponse_any (h : SAt w own i b c s cl ch q cm o ev qe ce oe) (f : Fr) (fq : Option Addr) (fc : Nat) (hsrc : SrcIs w fq f.info) (hl : s.out.length ≤ 2199023255552) :
    Calls Tryd.prog 86 #[.pointer (some ⟨b, 0, none⟩), frV f fq fc] w fun e w' => Did i b c (putR c f s) cl own w e w' := by
  have c5 := h.c_addr
  have hlt := h.lt
  have ha := h.cok.addr
  have HS := hide (fun V (hV : Below w.heap.size w V) => send_any (h.later hV) { f with a := (c.addr : Int) } fq fc (hsrc.below hV (Nat.le_refl _)) hl)
  clear h hsrc
  unfold frV at HS ⊢
  dsimp only at HS
  have ha1 : c.addr ≤ 3 := by omega
  clear ha
  go_enter Tryd.func86, Tryd.ntmps86
  go_wp2_with fail
  refine (unhide HS _ ?_).mono ?_
  · exact (Below.refl _ w).alloc (Nat.le_refl _) _
  rintro e w1 ⟨rfl, own', o', oe', h1, u1⟩
  have HR := hide (And.intro h1 u1)
  clear HS h1 u1
  go_wp2
  go_end0
  exact ⟨rfl, own', ⟨_, _, _, _, _, _, _, _, (unhide HR).1⟩, ((unhide HR).2).of ((Below.refl _ w).alloc (Nat.le_refl _) _)⟩
end
end Go.Proofs.YtkalonhalhdlaaaDoor

/-
  What the methods of a station do that start over.
-/
namespace Go.Proofs.YtkalonhalhdlaaaDoor
open Go.RowKit

section
variable {w W : World} {own : Nat → Nat} {i b : Nat} {c : Cfg} {s : St} {cl : Bool} {ch : Nat} {q cm o ev : Value} {qe ce oe : List Value}

/-- A station's block alone. -/
def HeadAt (w : World) (b : Nat) (c : Cfg) (s : St) (ch : Nat) (q cm o ev : Value) : Prop := w.heap[b]? = some (.cells (stCells c s ch q cm o ev) 84 (0, 0))
theorem HeadAt.state (h : HeadAt w b c s ch q cm o ev) (k : Nat) : HeadAt (w.setCell ⟨b, 7, none⟩ (.int .i64 k)) b c { s with state := k } ch q cm o ev := block_set h _
theorem HeadAt.vs (h : HeadAt w b c s ch q cm o ev) (k : Nat) : HeadAt (w.setCell ⟨b, 8, none⟩ (.int .i64 k)) b c { s with vs := k } ch q cm o ev := block_set h _
theorem HeadAt.va (h : HeadAt w b c s ch q cm o ev) (k : Nat) : HeadAt (w.setCell ⟨b, 9, none⟩ (.int .i64 k)) b c { s with va := k } ch q cm o ev := block_set h _
theorem HeadAt.vr (h : HeadAt w b c s ch q cm o ev) (k : Nat) : HeadAt (w.setCell ⟨b, 10, none⟩ (.int .i64 k)) b c { s with vr := k } ch q cm o ev := block_set h _
theorem HeadAt.vm (h : HeadAt w b c s ch q cm o ev) (k : Nat) : HeadAt (w.setCell ⟨b, 11, none⟩ (.int .i64 k)) b c { s with vm := k } ch q cm o ev := block_set h _
theorem HeadAt.timer (h : HeadAt w b c s ch q cm o ev) (k : Nat) : HeadAt (w.setCell ⟨b, 13, none⟩ (.int .i64 k)) b c { s with timer := k } ch q cm o ev := block_set h _
theorem HeadAt.tries (h : HeadAt w b c s ch q cm o ev) (k : Nat) : HeadAt (w.setCell ⟨b, 14, none⟩ (.int .i64 k)) b c { s with tries := k } ch q cm o ev := block_set h _
theorem HeadAt.polling (h : HeadAt w b c s ch q cm o ev) (k : Bool) : HeadAt (w.setCell ⟨b, 15, none⟩ (.bool k)) b c { s with polling := k } ch q cm o ev := block_set h _
theorem HeadAt.peer (h : HeadAt w b c s ch q cm o ev) (k : Bool) : HeadAt (w.setCell ⟨b, 16, none⟩ (.bool k)) b c { s with peer := k } ch q cm o ev := block_set h _
theorem HeadAt.rejected (h : HeadAt w b c s ch q cm o ev) (k : Bool) : HeadAt (w.setCell ⟨b, 17, none⟩ (.bool k)) b c { s with rejected := k } ch q cm o ev := block_set h _
theorem HeadAt.busy (h : HeadAt w b c s ch q cm o ev) (k : Bool) : HeadAt (w.setCell ⟨b, 18, none⟩ (.bool k)) b c { s with busy := k } ch q cm o ev := block_set h _
theorem HeadAt.lq (h : HeadAt w b c s ch q cm o ev) (k : Value) : HeadAt (w.setCell ⟨b, 12, none⟩ k) b c s ch k cm o ev := block_set h _
theorem HeadAt.lcm (h : HeadAt w b c s ch q cm o ev) (k : Value) : HeadAt (w.setCell ⟨b, 19, none⟩ k) b c s ch q k o ev := block_set h _
theorem HeadAt.lo (h : HeadAt w b c s ch q cm o ev) (k : Value) : HeadAt (w.setCell ⟨b, 20, none⟩ k) b c s ch q cm k ev := block_set h _
theorem HeadAt.lev (h : HeadAt w b c s ch q cm o ev) (k : Value) : HeadAt (w.setCell ⟨b, 21, none⟩ k) b c s ch q cm o k := block_set h _
/-- The block's lists, and what it says of them, apart. -/
theorem HeadAt.as (h : HeadAt w b c s ch q cm o ev) (s' : St) (e : s' = { s with queue := s'.queue, came := s'.came, out := s'.out, events := s'.events }) : HeadAt w b c s' ch q cm o ev := by
  rw [e]
  exact h
theorem SAt.hd (h : SAt w own i b c s cl ch q cm o ev qe ce oe) : HeadAt w b c s ch q cm o ev := h.head
/-- A list stays, or is let go of. -/
def Stays (v v' : Value) (es es' : List Value) (l l' : List Msg) : Prop := (v' = v ∧ es' = es ∧ l' = l) ∨ (v' = .slice none 0 0 ∧ es' = [] ∧ l' = [])
theorem Stays.same {v : Value} {es : List Value} {l : List Msg} : Stays v v es es l l := .inl ⟨rfl, rfl, rfl⟩
theorem Stays.gone {v : Value} {es : List Value} {l : List Msg} : Stays v (.slice none 0 0) es [] l [] := .inr ⟨rfl, rfl, rfl⟩
theorem Stays.lst {w : World} {own : Nat → Nat} {t : Nat} {v v' : Value} {es es' : List Value} {l l' : List Msg} (h : Stays v v' es es' l l') (k : Lst w own t v es l) : Lst w own t v' es' l' := by
  rcases h with ⟨rfl, rfl, rfl⟩ | ⟨rfl, rfl, rfl⟩
  · exact k
  · exact Lst.nil _ _ _
/-- Its block is written; its numbers are others, and lists of it are let go of. -/
theorem SAt.wroteL (h : SAt w own i b c s cl ch q cm o ev qe ce oe) {s' : St} {w' : World} {q' cm' o' ev' : Value} {qe' ce' oe' : List Value} (hk : Keeps (· = b) w w') (hh : HeadAt w' b c s' ch q' cm' o' ev')
    (e1 : Stays q q' qe qe' s.queue s'.queue) (e2 : Stays cm cm' ce ce' s.came s'.came) (e3 : Stays o o' oe oe' s.out s'.out) (e4 : (ev' = ev ∧ s'.events = s.events) ∨ (ev' = .slice none 0 0 ∧ s'.events = [])) (hok : s'.fit c) : SAt w' own i b c s' cl ch q' cm' o' ev' qe' ce' oe' := by
  have hne : ∀ p, p ≠ 0 → p < 5 → ∀ k, k = b → own k ≠ tg i p := fun p hp hp5 k hk => by rw [hk, h.ownb]; exact tg_ne (by omega) hp5 (.inr (fun e => hp e.symm))
  have hchb : ch ≠ b := fun e => by have := h.head; rw [← e, h.chan] at this; simp at this
  refine ⟨hh, h.ownb, by rw [hk.block ch (Array.getElem?_eq_some_iff.1 h.chan).1 hchb]; exact h.chan, h.ownc, ?_, ?_, ?_, ?_, ?_, h.ctl.keeps hk h.pos (fun e => ?_), h.own0, fun k hs => h.new0 k (Nat.le_trans hk.size hs), h.cok, hok⟩
  · exact e1.lst (h.lq.keeps hk (hne 1 (by omega) (by omega)) (fun _ _ => rfl))
  · exact e2.lst (h.lcm.keeps hk (hne 2 (by omega) (by omega)) (fun _ _ => rfl))
  · exact e3.lst (h.lo.keeps hk (hne 3 (by omega) (by omega)) (fun _ _ => rfl))
  · rcases e4 with ⟨rfl, e⟩ | ⟨rfl, e⟩
    · rw [e]; exact ownsRow_keepsB h.lev hk (fun k hb hX => hne 4 (by omega) (by omega) k hX (h.owne k hb))
    · rw [e]; exact World.ownsRow_nil _ _ _ _
  · rcases e4 with ⟨rfl, e⟩ | ⟨rfl, e⟩
    · exact h.owne
    · intro k hk; simp [Value.ownBlock] at hk
  · have := h.ownb; rw [← e, h.own0] at this; exact tg_pos _ _ this.symm

theorem over_fit' (hc : c.ok) (h : St.fit c s) : St.fit c (over s) := over_fit hc h s.state h.state 0 0 (Nat.zero_le _) (Nat.zero_le _)

set_option maxHeartbeats 4000000 in
set_option maxRecDepth 100000 in
theorem startOver_any (h : SAt w own i b c s cl ch q cm o ev qe ce oe) :
    Calls Tryd.prog 67 #[.pointer (some ⟨b, 0, none⟩)] w fun e w' => e = .returned (.tuple #[]) ∧ SAt w' own i b c (over s) cl ch (.slice none 0 0) cm o ev [] ce oe ∧ Upd i own own w w' := by
  have c8 := h.c_vs
  have c9 := h.c_va
  have c10 := h.c_vr
  have c11 := h.c_vm
  have c12 := h.c_q
  have c13 := h.c_timer
  have c14 := h.c_tries
  have c15 := h.c_polling
  have c16 := h.c_peer
  have c17 := h.c_rejected
  have fz := h.fz
  have hlt := h.lt
  have H := hide h
  clear h
  go_enter Tryd.func67, Tryd.ntmps67
  go_wp2
  go_end0
  have h := unhide H
  have hK : Keeps (· = b) w _ := ((((((((((Keeps.refl _ w).setB 8 (.int .i64 0)).setB 9 (.int .i64 0)).setB 10 (.int .i64 0)).setB 11 (.int .i64 0)).setB 12 (.slice none 0 0)).setB 13 (.int .i64 0)).setB 14 (.int .i64 0)).setB 15 (.bool false)).setB 16 (.bool false)).setB 17 (.bool false)
  exact ⟨rfl, h.wroteL hK (((((((((((h.hd.vs 0).va 0).vr 0).vm 0).lq _).timer 0).tries 0).polling false).peer false).rejected false).as (over s) rfl) Stays.gone Stays.same Stays.same (.inl ⟨rfl, rfl⟩) (over_fit' h.cok h.sok), h.upd hK⟩
end
end Go.Proofs.YtkalonhalhdlaaaDoor

/-
  What the methods of a station do that start over and send, or tell.
-/
namespace Go.Proofs.YtkalonhalhdlaaaDoor
open Go.RowKit

section
variable {w W : World} {own : Nat → Nat} {i b : Nat} {c : Cfg} {s : St} {cl : Bool} {ch : Nat} {q cm o ev : Value} {qe ce oe : List Value}

theorem infoByteS : (Tryd.prog.info? 5).map (fun i => (i.zero, i.size, i.bytes)) = some (some (.int .u8 0), 1, 1) := by kernel_rfl
theorem make_rowS (n : Nat) (hn : n ≤ 1099511627784) (w : World) : (Instr.makeSlice 22 (.int .i64 (n : Int)) (.int .i64 (n : Int))).run Tryd.prog w = .ok (.slice (some ⟨w.heap.size, 0, none⟩) n n) (w.alloc (.cells (Lib.byteCells (List.replicate n 0)).toArray 5)) := by
  obtain ⟨i0, hi, hz0, hz1, hz2⟩ := info_parts infoByteS
  rw [run_make w 22 5 i0 (.int .u8 0) Tryd.underlying22 hi hz0 .i64 .i64 n n (by omega) (Int.le_refl _) (by rw [hz2]; omega) (by omega)]
  have e : madeCells (Value.cells (.int .u8 0)) ((n : Int).toNat * i0.size) = (Lib.byteCells (List.replicate n 0)).toArray := by
    rw [hz1]
    apply Array.ext
    · simp [size_madeCells, Lib.byteCells]
    · intro j h1 h2
      simp [madeCells, Value.cells, Lib.byteCells, Nat.mod_one]
  rw [e]
  simp
theorem src_zero (n : Nat) (w : World) : SrcIs (w.alloc (.cells (Lib.byteCells (List.replicate n 0)).toArray 5)) (some ⟨w.heap.size, 0, none⟩) (List.replicate n 0) := by
  refine .inr ⟨w.heap.size, 0, rfl, by rw [alloc1_s]; omega, ?_⟩
  intro j hj
  rw [Lib.cell_of_heap (alloc1_a w _)]
  simp only [List.length_replicate] at hj
  simp [Lib.byteCells, hj]
theorem frV_zero (a k : Int) (p : Bool) (ns nr : Int) (n : Nat) (q : Option Addr) : frV ⟨a, k, p, ns, nr, List.replicate n 0⟩ q n = .agg #[.int .i64 a, .int .i64 k, .bool p, .int .i64 ns, .int .i64 nr, .slice q n n] := by
  unfold frV
  simp
theorem box_kept {w w1 : World} {own own1 : Nat → Nat} {i : Nat} {x : Obj} (u : Upd i own own1 (w.alloc x) w1) (h0 : own w.heap.size = 0) : w1.heap[w.heap.size]? = some x := by
  rw [u.keeps.block w.heap.size (by rw [alloc1_s]; omega) (by rintro ⟨p, _, e⟩; rw [h0] at e; exact tg_pos _ _ e.symm)]
  exact alloc1_a w x
theorem frBox {w : World} {B : Nat} {a b c d e f : Value} {t : TypeId} (h : w.heap[B]? = some (.cells #[a, b, c, d, e, f] t (0, 0))) :
    w.cell? ⟨B, 0, none⟩ = some a ∧ w.cell? ⟨B, 1, none⟩ = some b ∧ w.cell? ⟨B, 2, none⟩ = some c ∧ w.cell? ⟨B, 3, none⟩ = some d ∧ w.cell? ⟨B, 4, none⟩ = some e ∧ w.cell? ⟨B, 5, none⟩ = some f := by
  refine ⟨?_, ?_, ?_, ?_, ?_, ?_⟩ <;> (rw [Lib.cell_of_heap h]; rfl)
theorem src_nil (w : World) : SrcIs w none [] := .inl ⟨rfl, rfl⟩
theorem frV_bare (a k : Int) (p : Bool) (ns nr : Int) : frV ⟨a, k, p, ns, nr, []⟩ none 0 = .agg #[.int .i64 a, .int .i64 k, .bool p, .int .i64 ns, .int .i64 nr, .slice none 0 0] := rfl

set_option maxHeartbeats 4000000 in
set_option maxRecDepth 100000 in
theorem ask_any (h : SAt w own i b c s cl ch q cm o ev qe ce oe) (state kind : Nat) (hst : state = 1 ∨ state = 3) (hl : s.out.length ≤ 2199023255552) :
    Calls Tryd.prog 45 #[.pointer (some ⟨b, 0, none⟩), .int .i64 state, .int .i64 kind] w fun e w' => Did i b c (ask c state kind s) cl own w e w' := by
  have HS := hide (startOver_any h)
  have hlt := h.lt
  clear h
  go_enter Tryd.func45, Tryd.ntmps45
  go_wp2_with fail
  refine (unhide HS).mono ?_
  rintro e w1 ⟨rfl, h1, u1⟩
  have c2 := h1.c_tim
  have fz := h1.fz
  have c7 := h1.c_state
  have c13 := h1.c_timer
  have c14 := h1.c_tries
  have hlt1 := h1.lt
  have hK : Keeps (· = b) w1 _ := (((Keeps.refl _ w1).setB 7 (.int .i64 state)).setB 14 (.int .i64 1)).setB 13 (.int .i64 c.tim)
  have h2 := h1.wroteL hK ((((h1.hd.state state).tries 1).timer c.tim).as { over s with state := state, tries := 1, timer := c.tim } rfl) Stays.same Stays.same Stays.same (.inl ⟨rfl, rfl⟩) (over_fit h1.cok h1.sok state (by omega) c.tim 1 (Nat.le_refl _) h1.cok.tri1)
  have k3 := sendCommand_any h2 ⟨0, kind, true, 0, 0, []⟩ none 0 (src_nil _) hl
  rw [frV_bare] at k3
  have H3 := hide k3
  have HU := hide (u1.trans (h1.upd hK))
  clear k3 h2 hK u1 h1 HS
  go_wp2_with fail
  refine (unhide H3).mono ?_
  rintro e w2 ⟨rfl, own2, h3, u3⟩
  have HR := hide (And.intro h3 ((unhide HU).trans u3))
  clear h3 u3 H3 HU c2 fz c7 c13 c14
  go_wp2
  go_end0
  exact ⟨rfl, _, (unhide HR).1, (unhide HR).2⟩

set_option maxHeartbeats 4000000 in
set_option maxRecDepth 100000 in
theorem call_any (h : SAt w own i b c s cl ch q cm o ev qe ce oe) (hl : s.out.length ≤ 2199023255552) :
    Calls Tryd.prog 44 #[.pointer (some ⟨b, 0, none⟩)] w fun e w' => Did i b c (callS c s) cl own w e w' := by
  have HS := hide (ask_any h 1 5 (.inl rfl) hl)
  clear h
  go_enter Tryd.func44, Tryd.ntmps44
  go_wp2_with fail
  refine (unhide HS).mono ?_
  rintro e w1 ⟨rfl, own2, h3, u3⟩
  have HR := hide (And.intro h3 u3)
  clear h3 u3 HS
  go_wp2
  go_end0
  exact ⟨rfl, _, (unhide HR).1, (unhide HR).2⟩

set_option maxHeartbeats 4000000 in
set_option maxRecDepth 100000 in
theorem goDown_any (h : SAt w own i b c s cl ch q cm o ev qe ce oe) (n : Nat) (hl : s.events.length ≤ 2199023255552) :
    Calls Tryd.prog 73 #[.pointer (some ⟨b, 0, none⟩), .int .i64 n] w fun e w' => Did i b c (goDown n s) cl own w e w' := by
  have HS := hide (startOver_any h)
  have hlt := h.lt
  clear h
  go_enter Tryd.func73, Tryd.ntmps73
  go_wp2_with fail
  refine (unhide HS).mono ?_
  rintro e w1 ⟨rfl, h1, u1⟩
  have fz := h1.fz
  have c7 := h1.c_state
  have hlt1 := h1.lt
  have hK : Keeps (· = b) w1 _ := (Keeps.refl _ w1).setB 7 (.int .i64 (0 : Nat))
  have h2 := h1.wroteL hK ((h1.hd.state 0).as { over s with state := 0 } rfl) Stays.same Stays.same Stays.same (.inl ⟨rfl, rfl⟩) (over_fit h1.cok h1.sok 0 (by omega) 0 0 (Nat.zero_le _) (Nat.zero_le _))
  have H3 := hide (tell_any h2 n hl)
  have HU := hide (u1.trans (h1.upd hK))
  clear h2 hK u1 h1 HS
  go_wp2_with fail
  refine (unhide H3).mono ?_
  rintro e w2 ⟨rfl, own2, h3, u3⟩
  have HR := hide (And.intro h3 ((unhide HU).trans u3))
  clear h3 u3 H3 HU c7 fz
  go_wp2
  go_end0
  exact ⟨rfl, _, (unhide HR).1, (unhide HR).2⟩

set_option maxHeartbeats 4000000 in
set_option maxRecDepth 100000 in
theorem comeUp_any (h : SAt w own i b c s cl ch q cm o ev qe ce oe) (n : Nat) (hl : s.events.length ≤ 2199023255552) :
    Calls Tryd.prog 78 #[.pointer (some ⟨b, 0, none⟩), .int .i64 n] w fun e w' => Did i b c (comeUp n s) cl own w e w' := by
  have HS := hide (startOver_any h)
  have hlt := h.lt
  clear h
  go_enter Tryd.func78, Tryd.ntmps78
  go_wp2_with fail
  refine (unhide HS).mono ?_
  rintro e w1 ⟨rfl, h1, u1⟩
  have fz := h1.fz
  have c7 := h1.c_state
  have hlt1 := h1.lt
  have hK : Keeps (· = b) w1 _ := (Keeps.refl _ w1).setB 7 (.int .i64 (2 : Nat))
  have h2 := h1.wroteL hK ((h1.hd.state 2).as { over s with state := 2 } rfl) Stays.same Stays.same Stays.same (.inl ⟨rfl, rfl⟩) (over_fit h1.cok h1.sok 2 (by omega) 0 0 (Nat.zero_le _) (Nat.zero_le _))
  have H3 := hide (tell_any h2 n hl)
  have HU := hide (u1.trans (h1.upd hK))
  clear h2 hK u1 h1 HS
  go_wp2_with fail
  refine (unhide H3).mono ?_
  rintro e w2 ⟨rfl, own2, h3, u3⟩
  have HR := hide (And.intro h3 ((unhide HU).trans u3))
  clear h3 u3 H3 HU c7 fz
  go_wp2
  go_end0
  exact ⟨rfl, _, (unhide HR).1, (unhide HR).2⟩

set_option maxHeartbeats 4000000 in
set_option maxRecDepth 100000 in
theorem respond_any (h : SAt w own i b c s cl ch q cm o ev qe ce oe) (k : Nat) (f : Fr) (fq : Option Addr) (fc : Nat) (hl : s.out.length ≤ 2199023255552) :
    Calls Tryd.prog 77 #[.pointer (some ⟨b, 0, none⟩), .int .i64 k, frV f fq fc] w fun e w' => Did i b c (respond c k f.p s) cl own w e w' := by
  have hlt := h.lt
  have hk := fun V (hV : Below w.heap.size w V) => sendResponse_any (h.later hV) ⟨0, k, f.p, 0, 0, []⟩ none 0 (src_nil _) hl
  simp only [frV_bare] at hk
  have HS := hide hk
  clear h hk
  unfold frV
  go_enter Tryd.func77, Tryd.ntmps77
  go_wp2_with fail
  refine (unhide HS _ ?_).mono ?_
  · exact (Below.refl _ w).alloc (Nat.le_refl _) _
  rintro e w1 ⟨rfl, own2, h3, u3⟩
  have HR := hide (And.intro h3 (u3.of ((Below.refl _ w).alloc (Nat.le_refl _) _)))
  clear h3 u3 HS
  go_wp2
  go_end0
  exact ⟨rfl, _, (unhide HR).1, (unhide HR).2⟩

set_option maxHeartbeats 4000000 in
set_option maxRecDepth 100000 in
theorem answer_any (h : SAt w own i b c s cl ch q cm o ev qe ce oe) (p : Bool) (hl : s.out.length ≤ 2199023255552) :
    Calls Tryd.prog 72 #[.pointer (some ⟨b, 0, none⟩), .bool p] w fun e w' => Did i b c (answer c p s) cl own w e w' := by
  have hlt := h.lt
  have c10 := h.c_vr
  have HR1 := hide (fun V (hV : Below w.heap.size w V) => readiness_any (h.later hV))
  have hk := fun V (hV : Below w.heap.size w V) => sendResponse_any (h.later hV) ⟨0, ready c s, p, 0, s.vr, []⟩ none 0 (src_nil _) hl
  simp only [frV_bare] at hk
  have HS := hide hk
  clear h hk
  go_enter Tryd.func72, Tryd.ntmps72
  go_wp2_with fail
  go_region_with (first | (go_at_call 74; refine (unhide HR1 _ ?_).mono ?_; (first | exact Below.refl _ _ | exact (Below.refl _ w).drew); rintro e w1 ⟨rfl, k, rfl⟩) | (go_at_call 86; refine (unhide HS _ ?_).mono ?_; (first | exact Below.refl _ _ | exact (Below.refl _ w).drew | exact below_drewN (Below.refl _ w) _); rintro e w2 ⟨rfl, own2, h3, u3⟩))
  all_goals
    have HR := hide (And.intro h3 (Upd.of (w := w) (by first | exact Below.refl _ _ | exact (Below.refl _ w).drew | exact below_drewN (Below.refl _ w) _) u3))
    clear h3 u3 HS
    go_wp2
    go_end0
    exact ⟨rfl, _, (unhide HR).1, (unhide HR).2⟩

set_option maxHeartbeats 4000000 in
set_option maxRecDepth 100000 in
theorem report_any (h : SAt w own i b c s cl ch q cm o ev qe ce oe) (p : Bool) (hl : s.out.length ≤ 2199023255552) :
    Calls Tryd.prog 82 #[.pointer (some ⟨b, 0, none⟩), .bool p] w fun e w' => Did i b c (report c p s) cl own w e w' := by
  have hlt := h.lt
  have c0 := h.c_m
  have hm := h.cok.m
  obtain ⟨n, hn, hn5⟩ : ∃ n : Nat, repN c.m = n ∧ n ≤ 5 := by
    rcases hm with e | e
    · exact ⟨3, by rw [e]; rfl, by omega⟩
    · exact ⟨5, by rw [e]; rfl, by omega⟩
  have k1 := reportBytes_any (c.m : Int) w
  rw [hn] at k1
  have hpost : report c p s = putR c ⟨0, 9, p, 0, 0, List.replicate n 0⟩ s := by unfold report; rw [hn]; rfl
  have hbl : Below w.heap.size w (w.alloc (.cells (Lib.byteCells (List.replicate n 0)).toArray 5)) := (Below.refl _ w).alloc (Nat.le_refl _) _
  have k2 := sendResponse_any (h.later hbl) ⟨0, 9, p, 0, 0, List.replicate n 0⟩ (some ⟨w.heap.size, 0, none⟩) n (src_zero n w) hl
  rw [frV_zero] at k2
  have H1 := hide k1
  have H2 := hide k2
  have hmk := make_rowS n (by omega) w
  rw [hpost]
  generalize hz : (Lib.byteCells (List.replicate n 0)).toArray = zs at H2 hmk hbl
  have HB := hide hbl
  clear h k1 k2 hpost hn hz hbl hm
  go_enter Tryd.func82, Tryd.ntmps82
  go_wp2_with fail
  refine (unhide H1).mono ?_
  rintro e w1 ⟨rfl, rfl⟩
  go_wp2_with fail
  refine (unhide H2).mono ?_
  rintro e w2 ⟨rfl, own2, h3, u3⟩
  have HR := hide (And.intro h3 (Upd.of (unhide HB) u3))
  clear h3 u3 H2 HB hmk
  go_wp2
  go_end0
  exact ⟨rfl, _, (unhide HR).1, (unhide HR).2⟩

set_option maxHeartbeats 4000000 in
set_option maxRecDepth 100000 in
theorem accept_any (h : SAt w own i b c s cl ch q cm o ev qe ce oe) (n : Nat) (f : Fr) (fq : Option Addr) (fc : Nat) (hl : s.out.length ≤ 2199023255552) (hl2 : s.events.length ≤ 2199023255552) :
    Calls Tryd.prog 76 #[.pointer (some ⟨b, 0, none⟩), frV f fq fc, .int .i64 n] w fun e w' => Did i b c (accept c f.p n s) cl own w e w' := by
  have hlt := h.lt
  have hn0 := h.new0 w.heap.size (Nat.le_refl _)
  have HS := hide (fun V (hV : Below w.heap.size w V) => comeUp_any (h.later hV) n hl2)
  clear h
  unfold frV
  go_enter Tryd.func76, Tryd.ntmps76
  go_wp2_with fail
  refine (unhide HS _ ?_).mono ?_
  · exact (Below.refl _ w).alloc (Nat.le_refl _) _
  rintro e w1 ⟨rfl, own1, ⟨ch1, q1, cm1, o1, ev1, qe1, ce1, oe1, h1⟩, u1⟩
  obtain ⟨y0, y1, y2, y3, y4, y5⟩ := frBox (box_kept u1 hn0)
  have hk := respond_any h1 7 f fq fc hl
  unfold frV at hk
  have H2 := hide hk
  have HU := hide (u1.of ((Below.refl _ w).alloc (Nat.le_refl _) _))
  clear hk h1 u1 HS
  go_wp2_with fail
  refine (unhide H2).mono ?_
  rintro e w2 ⟨rfl, own2, h3, u3⟩
  have HR := hide (And.intro h3 ((unhide HU).trans u3))
  clear h3 u3 H2 HU y0 y1 y2 y3 y4 y5
  go_wp2
  go_end0
  exact ⟨rfl, _, (unhide HR).1, (unhide HR).2⟩

set_option maxHeartbeats 4000000 in
set_option maxRecDepth 100000 in
theorem agree_any (h : SAt w own i b c s cl ch q cm o ev qe ce oe) (f : Fr) (fq : Option Addr) (fc : Nat) (hl : s.out.length ≤ 2199023255552) (hl2 : s.events.length ≤ 2199023255552) :
    Calls Tryd.prog 79 #[.pointer (some ⟨b, 0, none⟩), frV f fq fc] w fun e w' => Did i b c (agree c f.p s) cl own w e w' := by
  have hlt := h.lt
  have hk := fun V (hV : Below w.heap.size w V) => respond_any (h.later hV) 7 f fq fc hl
  unfold frV at hk ⊢
  have HS := hide hk
  clear h hk
  go_enter Tryd.func79, Tryd.ntmps79
  go_wp2_with fail
  refine (unhide HS _ ?_).mono ?_
  · exact (Below.refl _ w).alloc (Nat.le_refl _) _
  rintro e w1 ⟨rfl, own1, ⟨ch1, q1, cm1, o1, ev1, qe1, ce1, oe1, h1⟩, u1⟩
  have H2 := hide (goDown_any h1 3 hl2)
  have HU := hide (u1.of ((Below.refl _ w).alloc (Nat.le_refl _) _))
  clear h1 u1 HS
  go_wp2_with fail
  refine (unhide H2).mono ?_
  rintro e w2 ⟨rfl, own2, h3, u3⟩
  have HR := hide (And.intro h3 ((unhide HU).trans u3))
  clear h3 u3 H2 HU
  go_wp2
  go_end0
  exact ⟨rfl, _, (unhide HR).1, (unhide HR).2⟩
end
end Go.Proofs.YtkalonhalhdlaaaDoor

/-
  What the methods of a station do that pump, and see to the timer.
-/
namespace Go.Proofs.YtkalonhalhdlaaaDoor
open Go.RowKit

section
variable {w W : World} {own : Nat → Nat} {i b : Nat} {c : Cfg} {s : St} {cl : Bool} {ch : Nat} {q cm o ev : Value} {qe ce oe : List Value}

theorem Did.of {s' : St} {e : Ending} {w' : World} (hb : Below w.heap.size w W) (h : Did i b c s' cl own W e w') : Did i b c s' cl own w e w' := ⟨h.1, h.2.choose, h.2.choose_spec.1, h.2.choose_spec.2.of hb⟩
/-- A station whose block alone was written. -/
theorem SAt.did (h : SAt w own i b c s cl ch q cm o ev qe ce oe) {s' : St} {w' : World} (hk : Keeps (· = b) w w') (hh : HeadAt w' b c s' ch q cm o ev) (e1 : s'.queue = s.queue) (e2 : s'.came = s.came) (e3 : s'.out = s.out) (e4 : s'.events = s.events) (hok : s'.fit c) : Did i b c s' cl own w (.returned (.tuple #[])) w' :=
  ⟨rfl, own, ⟨_, _, _, _, _, _, _, _, h.wrote hk hh e1 e2 e3 e4 hok⟩, h.upd hk⟩
theorem SAt.idle (h : SAt w own i b c s cl ch q cm o ev qe ce oe) : Did i b c s cl own w (.returned (.tuple #[])) w := ⟨rfl, own, ⟨_, _, _, _, _, _, _, _, h⟩, Upd.refl _ _ _⟩
theorem SAt.idleB (h : SAt w own i b c s cl ch q cm o ev qe ce oe) {w' : World} (hb : Below w.heap.size w w') : Did i b c s cl own w (.returned (.tuple #[])) w' := ⟨rfl, own, ⟨_, _, _, _, _, _, _, _, h.later hb⟩, (Upd.refl i own w').of hb⟩

set_option maxHeartbeats 4000000 in
set_option maxRecDepth 100000 in
theorem endPolling_any (h : SAt w own i b c s cl ch q cm o ev qe ce oe) (nr : Nat) (hnr : nr < c.m) :
    Calls Tryd.prog 93 #[.pointer (some ⟨b, 0, none⟩), .int .i64 nr] w fun e w' => Did i b c ({ s with polling := false, vs := nr, timer := 0 }) cl own w e w' := by
  have c15 := h.c_polling
  have c8 := h.c_vs
  have c13 := h.c_timer
  have fz := h.fz
  have hlt := h.lt
  have H := hide h
  clear h
  go_enter Tryd.func93, Tryd.ntmps93
  go_wp2
  go_end0
  have h := unhide H
  exact h.did (((((Keeps.refl _ w).setB 15 (.bool false)).setB 8 (.int .i64 nr)).setB 13 (.int .i64 (0 : Nat)))) ((((h.hd.polling false).vs nr).timer 0).as { s with polling := false, vs := nr, timer := 0 } rfl) rfl rfl rfl rfl ⟨h.sok.state, hnr, h.sok.va, h.sok.vr, h.sok.vm, h.sok.q20, h.sok.q32, Nat.zero_le _, h.sok.tries, h.sok.came⟩

set_option maxHeartbeats 4000000 in
set_option maxRecDepth 100000 in
theorem setTimer_any (h : SAt w own i b c s cl ch q cm o ev qe ce oe) :
    Calls Tryd.prog 71 #[.pointer (some ⟨b, 0, none⟩)] w fun e w' => Did i b c (setTimer c s) cl own w e w' := by
  have c9 := h.c_va
  have c11 := h.c_vm
  have c16 := h.c_peer
  have c13 := h.c_timer
  have c14 := h.c_tries
  have c2 := h.c_tim
  have fz := h.fz
  have hlt := h.lt
  have f1 : St.fit c { s with timer := 0 } := ⟨h.sok.state, h.sok.vs, h.sok.va, h.sok.vr, h.sok.vm, h.sok.q20, h.sok.q32, Nat.zero_le _, h.sok.tries, h.sok.came⟩
  have f2 : St.fit c { s with timer := c.tim, tries := 1 } := ⟨h.sok.state, h.sok.vs, h.sok.va, h.sok.vr, h.sok.vm, h.sok.q20, h.sok.q32, Nat.le_refl _, h.cok.tri1, h.sok.came⟩
  have F1 := hide f1
  have F2 := hide f2
  have H := hide h
  clear h f1 f2
  have done0 : ∀ n, Did i b c { s with timer := 0 } cl own w (.returned (.tuple #[])) ((w.drewN n).setCell ⟨b, 13, none⟩ (.int .i64 (0 : Nat))) := fun n => by
    have h := (unhide H).drewN n
    exact Did.of (below_drewN (Below.refl _ w) n) (h.did ((Keeps.refl _ _).setB 13 (.int .i64 (0 : Nat))) ((h.hd.timer 0).as { s with timer := 0 } rfl) rfl rfl rfl rfl (unhide F1))
  have done1 : ∀ n, Did i b c { s with timer := c.tim, tries := 1 } cl own w (.returned (.tuple #[])) (((w.drewN n).setCell ⟨b, 13, none⟩ (.int .i64 c.tim)).setCell ⟨b, 14, none⟩ (.int .i64 (1 : Nat))) := fun n => by
    have h := (unhide H).drewN n
    exact Did.of (below_drewN (Below.refl _ w) n) (h.did (((Keeps.refl _ _).setB 13 (.int .i64 c.tim)).setB 14 (.int .i64 (1 : Nat))) (((h.hd.timer c.tim).tries 1).as { s with timer := c.tim, tries := 1 } rfl) rfl rfl rfl rfl (unhide F2))
  have done2 : ∀ n, Did i b c s cl own w (.returned (.tuple #[])) (w.drewN n) := fun n => (unhide H).idleB (below_drewN (Below.refl _ w) n)
  have D0 := hide done0
  have D1 := hide done1
  have D2 := hide done2
  clear done0 done1 done2 F1 F2 H
  unfold setTimer
  by_cases hv : s.va = s.vm
  · have t1 : ((s.va : Int) == (s.vm : Int)) = true := by simp [hv]
    by_cases hp : s.peer = false
    · rw [if_pos ⟨hv, hp⟩]
      rw [hp] at c16
      clear hp hv
      go_enter Tryd.func71, Tryd.ntmps71
      go_wp2
      go_quiet (fail)
      go_wp2
      go_end0
      exact unhide D0 _
    · rw [if_neg (fun hh => hp hh.2)]
      rw [eq_true_of_ne_false hp] at c16
      clear hp hv
      by_cases h0 : s.timer = 0
      · rw [if_pos h0]
        have t2 : ((s.timer : Int) == 0) = true := by simp [h0]
        clear h0
        go_enter Tryd.func71, Tryd.ntmps71
        go_wp2
        go_quiet (fail)
        go_wp2
        go_end0
        exact unhide D1 _
      · rw [if_neg h0]
        have t2 : ((s.timer : Int) == 0) = false := by simp [h0]
        clear h0
        go_enter Tryd.func71, Tryd.ntmps71
        go_wp2
        go_quiet (fail)
        go_wp2
        go_end0
        exact unhide D2 _
  · have t1 : ((s.va : Int) == (s.vm : Int)) = false := by simp; omega
    rw [if_neg (by simp [hv])]
    clear hv
    by_cases h0 : s.timer = 0
    · rw [if_pos h0]
      have t2 : ((s.timer : Int) == 0) = true := by simp [h0]
      clear h0
      go_enter Tryd.func71, Tryd.ntmps71
      go_wp2
      go_quiet (fail)
      go_wp2
      go_end0
      exact unhide D1 _
    · rw [if_neg h0]
      have t2 : ((s.timer : Int) == 0) = false := by simp [h0]
      clear h0
      go_enter Tryd.func71, Tryd.ntmps71
      go_wp2
      go_quiet (fail)
      go_wp2
      go_end0
      exact unhide D2 _
end
end Go.Proofs.YtkalonhalhdlaaaDoor

/-
  What one call of sendNext does.
-/
namespace Go.Proofs.YtkalonhalhdlaaaDoor
open Go.RowKit

section
variable {w W : World} {own : Nat → Nat} {i b : Nat} {c : Cfg} {s : St} {cl : Bool} {ch : Nat} {q cm o ev : Value} {qe ce oe : List Value}

/-- One of a list's lists. -/
theorem Lst.at {w : World} {own : Nat → Nat} {t : Nat} {v : Value} {ents : List Value} {l : List Msg} (h : Lst w own t v ents l) (k : Nat) (hk : k < l.length) : ∃ g cap p pc, v = .slice (some ⟨g, 0, none⟩) l.length cap ∧ w.cell? ⟨g, k, none⟩ = some (.slice p (l.getD k []).length pc) ∧ SrcIs w p (l.getD k []) ∧ l.length ≤ cap ∧ cap ≤ maxLen := by
  have hl := h.len
  obtain ⟨p0, cap, hv, h1, h2⟩ := h.slice
  rcases h.row.2 with ⟨_, h0⟩ | ⟨g, cap', cur, hv', _⟩
  · omega
  · have hr := h.row
    rw [hv'] at hr
    have hc := hr.cellAt k (by omega)
    have hx : ents[k]? = some ents[k] := List.getElem?_eq_getElem (by omega)
    have hm : l[k]? = some l[k] := List.getElem?_eq_getElem hk
    have hb := h.each k _ _ hx hm
    obtain ⟨p, pc, hp⟩ := row_slice hb.1
    have e : l.getD k [] = l[k] := by simp [List.getD, hm]
    rw [hv] at hv'
    simp only [Value.slice.injEq] at hv'
    obtain ⟨rfl, _, rfl⟩ := hv'
    refine ⟨g, cap, p, pc, hv, ?_, ?_, h1, h2⟩
    · rw [hc, hx, hp, e]
    · rw [e]
      have hb1 := hb.1
      rw [hp] at hb1
      exact own_src hb1 rfl

set_option maxHeartbeats 4000000 in
set_option maxRecDepth 100000 in
theorem sendNext_any (h : SAt w own i b c s cl ch q cm o ev qe ce oe) (hm : ahead c s s.vs < s.queue.length) (hl : s.out.length ≤ 2199023255552) :
    Calls Tryd.prog 70 #[.pointer (some ⟨b, 0, none⟩)] w fun e w' => Did i b c (sendNext c s) cl own w e w' := by
  obtain ⟨g, cap, p, pc, rfl, hcell, hsrc, hq1, hq2⟩ := h.lq.at _ hm
  have c8 := h.c_vs
  have c10 := h.c_vr
  have c12 := h.c_q
  have hlt := h.lt
  have k1 := fun n => ahead_any (h.drewN n) s.vs h.sok.vs
  have hk := fun V (hV : Below w.heap.size w V) => sendCommand_any (h.later hV) ⟨0, 1, false, s.vs, s.vr, s.queue.getD (ahead c s s.vs) []⟩ p pc (hsrc.below hV (Nat.le_refl _)) hl
  unfold frV at hk
  dsimp only at hk
  have hq20 := h.sok.q20
  have hsok := h.sok
  have hcok := h.cok
  have HS := hide hk
  have HSOK := hide hsok
  have HCOK := hide hcok
  generalize hmsg : s.queue.getD (ahead c s s.vs) [] = msg at hcell HS
  have HMSG := hide hmsg
  clear hk h hsrc hmsg hsok hcok
  unfold maxLen at hq2
  generalize hk0 : ahead c s s.vs = k at k1 hm hcell
  have HK0 := hide hk0
  clear hk0
  go_enter Tryd.func70, Tryd.ntmps70
  go_wp2_with fail
  go_quiet (first | (go_at_call 84; exact Calls.quiet_of (k1 _)))
  go_wp2_with fail
  go_region_held3 (fun w' => w'.cell? ⟨b, 8, none⟩ = some (.int .i64 s.vs) ∧ w'.cell? ⟨b, 10, none⟩ = some (.int .i64 s.vr)) (first | go_keep | exact ⟨h1.c_vs, h1.c_vr⟩) (first | (go_at_call 68; refine (unhide HS _ ?_).mono ?_; (first | exact below_drewN (Below.refl _ w) _ | exact (below_drewN (Below.refl _ w) _).drew); rintro e w1 ⟨rfl, own1, ⟨ch1, q1, cm1, o1, ev1, qe1, ce1, oe1, h1⟩, u1⟩))
  have HU := hide (Upd.of (w := w) (below_drewN (Below.refl _ w) _) u1)
  have d8 := h1.c_vs
  have d11 := h1.c_vm
  have fz := h1.fz
  have hlt1 := h1.lt
  have k2 := following_any h1 s.vs (unhide HSOK).vs
  have H1 := hide h1
  have K2 := hide k2
  clear h1 u1 HS k1 k2 c8 c10 c12 hcell
  dsimp only [putC, put] at d8 d11
  go_wp2_with fail
  refine (unhide K2).mono ?_
  rintro e w2 ⟨rfl, n2, rfl⟩
  clear K2
  have h1 := (unhide H1).drewN n2
  have fok := unhide HSOK
  have hfl := follow_lt (unhide HCOK) s.vs
  have hK : Keeps (· = b) (w1.drewN n2) _ := (Keeps.refl _ (w1.drewN n2)).setB 8 (.int .i64 (follow c s.vs : Nat))
  have h2 := h1.wrote hK ((h1.hd.vs (follow c s.vs)).as { putC c ⟨0, 1, false, s.vs, s.vr, msg⟩ s with vs := follow c s.vs } rfl) rfl rfl rfl rfl ⟨fok.state, hfl, fok.va, fok.vr, fok.vm, fok.q20, fok.q32, fok.timer, fok.tries, fok.came⟩
  have hU := ((unhide HU).trans (Upd.of (below_drewN (Below.refl _ w1) n2) (h1.upd hK)))
  have hpost : sendNext c s = upVm c { putC c ⟨0, 1, false, s.vs, s.vr, msg⟩ s with vs := follow c s.vs } := by
    unfold sendNext
    rw [unhide HMSG]
  have d8' := h2.c_vs
  have d11' := h2.c_vm
  have fz2 := h2.fz
  have hlt2 := h2.lt
  have k3 := fun j => ahead_any (h2.drewN j) s.vm fok.vm
  have k4 := fun j => ahead_any (h2.drewN j) (follow c s.vs) hfl
  have H2 := hide h2
  have HU2 := hide hU
  generalize ht : ({ putC c ⟨0, 1, false, s.vs, s.vr, msg⟩ s with vs := follow c s.vs } : St) = t at k3 k4 H2 hpost
  have hup : upVm c t = if ahead c t s.vm < ahead c t (follow c s.vs) then { t with vm := follow c s.vs } else t := by rw [← ht]; rfl
  have htq : t.fit c := (unhide H2).sok
  have HT := hide htq
  have HUP := hide (hpost.trans hup)
  dsimp only [putC, put] at d8' d11'
  clear ht hup htq h2 hU hpost h1 hK fok H1 HU HMSG HK0 hm hq20 hq1 hq2 HCOK
  generalize hx : ahead c t s.vm = x at k3 HUP
  generalize hy : ahead c t (follow c s.vs) = y at k4 HUP
  clear hx hy
  generalize hfo : follow c s.vs = fo at *
  clear hfo
  by_cases hxy : x < y
  · have HP : Hid (sendNext c s = { t with vm := fo }) := hide (by rw [unhide HUP, if_pos hxy])
    clear HUP
    go_wp2_with fail
    go_quiet (first | (go_at_call_of 84 ((s.vm : Int)); exact Calls.quiet_of (k3 _)) | (go_at_call_of 84 ((fo : Int)); exact Calls.quiet_of (k4 _)))
    clear k3 k4
    go_wp2
    go_end0
    rw [unhide HP]
    have h2 := (unhide H2).drewN nq
    have hd := Did.of (below_drewN (Below.refl _ _) nq) (h2.did (s' := { t with vm := fo }) ((Keeps.refl _ _).setB 11 (.int .i64 (fo : Nat))) (h2.hd.vm fo) rfl rfl rfl rfl ⟨h2.sok.state, h2.sok.vs, h2.sok.va, h2.sok.vr, hfl, h2.sok.q20, h2.sok.q32, h2.sok.timer, h2.sok.tries, h2.sok.came⟩)
    obtain ⟨_, own3, h3, u3⟩ := hd
    exact ⟨rfl, own3, h3, (unhide HU2).trans u3⟩
  · have HP : Hid (sendNext c s = t) := hide (by rw [unhide HUP, if_neg hxy])
    clear HUP
    go_wp2_with fail
    go_quiet (first | (go_at_call_of 84 ((s.vm : Int)); exact Calls.quiet_of (k3 _)) | (go_at_call_of 84 ((fo : Int)); exact Calls.quiet_of (k4 _)))
    clear k3 k4
    go_wp2
    go_end0
    rw [unhide HP]
    exact ⟨rfl, own1, ⟨_, _, _, _, _, _, _, _, (unhide H2).drewN nq⟩, (unhide HU2).trans (Upd.of (below_drewN (Below.refl _ _) nq) (Upd.refl _ _ _))⟩
end
end Go.Proofs.YtkalonhalhdlaaaDoor

/-
  What one call of pump does.
-/
namespace Go.Proofs.YtkalonhalhdlaaaDoor
open Go.RowKit

section
variable {w W : World} {own : Nat → Nat} {i b : Nat} {c : Cfg} {s : St} {cl : Bool} {ch : Nat} {q cm o ev : Value} {qe ce oe : List Value}

theorem sendNext_ahead' (hc : c.ok) (h : St.fit c s) (hm : maySend c s = true) : ahead c (sendNext c s) (sendNext c s).vs = ahead c s s.vs + 1 := by
  obtain ⟨_, _, h3⟩ := maySend_iff.1 hm
  rw [sendNext_vs]
  show (_ + c.m - (sendNext c s).va) % c.m = _
  rw [sendNext_va]
  exact ahead_follow hc h.vs h.va (by have := hc.winm; omega)
theorem sendNext_out : (sendNext c s).out.length = s.out.length + 1 := by
  unfold sendNext upVm
  split <;> simp [putC, put]

/-- Amid the pumping: so many rounds at most are to come. -/
def PumpInv (i b : Nat) (c : Cfg) (s : St) (cl : Bool) (own : Nat → Nat) (w : World) (k : Nat) (wr : World) : Prop :=
  ∃ own' t, Stn wr own' i b c t cl ∧ Upd i own own' w wr ∧ pumpN c 16 s = pumpN c k t ∧ c.win < k + ahead c t t.vs ∧ t.out.length + k ≤ s.out.length + 16

theorem PumpInv.start (h : SAt w own i b c s cl ch q cm o ev qe ce oe) : PumpInv i b c s cl own w 16 w :=
  ⟨own, s, ⟨_, _, _, _, _, _, _, _, h⟩, Upd.refl _ _ _, rfl, by have := h.cok.win15; omega, by omega⟩

set_option maxHeartbeats 4000000 in
set_option maxRecDepth 100000 in
theorem pump_any (h : SAt w own i b c s cl ch q cm o ev qe ce oe) (hl : s.out.length + 16 ≤ 2199023255552) :
    Calls Tryd.prog 47 #[.pointer (some ⟨b, 0, none⟩)] w fun e w' => Did i b c (pump c s) cl own w e w' := by
  have c15 := h.c_polling
  have hlt := h.lt
  by_cases hp : s.polling = true
  · have HP : Hid (pump c s = s) := hide (by unfold pump; rw [if_pos hp])
    rw [hp] at c15
    have H := hide h
    clear h hp
    go_enter Tryd.func47, Tryd.ntmps47
    go_wp2
    refine bodyPost_ret (results_none rfl _ _ _) rfl ?_
    rw [unhide HP]
    exact (unhide H).idle
  · have hp' : s.polling = false := eq_false_of_ne_true hp
    have HP : Hid (pump c s = setTimer c (pumpN c 16 s)) := hide (by unfold pump; rw [if_neg hp])
    rw [hp'] at c15
    have HI := hide (PumpInv.start h)
    clear h hp hp'
    go_enter Tryd.func47, Tryd.ntmps47
    go_wp2
    go_loopg [] 16 (fun k wr => PumpInv i b c s cl own w k wr)
    case atStart => exact unhide HI
    case round =>
      obtain ⟨own', t, ⟨ch1, q1, cm1, o1, ev1, qe1, ce1, oe1, h1⟩, u1, e1, hw, ho⟩ := hrel
      have k1 := maySendNext_any h1
      have E1 := hide e1
      have U1 := hide u1
      have H1 := hide h1
      clear e1 u1 h1 HI
      by_cases hm : maySend c t = true
      · rw [hm] at k1
        have hm' := hide hm
        clear hm
        go_wp2_with fail
        refine k1.mono ?_
        rintro e w2 ⟨rfl, n2, rfl⟩
        clear k1
        have h2 := (unhide H1).drewN n2
        have k2 := sendNext_any h2 (maySend_iff.1 (unhide hm')).2.1 (by omega)
        have K2 := hide k2
        clear k2 h2
        go_wp2_with fail
        refine (unhide K2).mono ?_
        rintro e w3 ⟨rfl, own3, h3, u3⟩
        have HR : Hid (PumpInv i b c s cl own w (gk - 1) w3) := by
          have h1 := unhide H1
          have hmm := unhide hm'
          have ha := sendNext_ahead' h1.cok h1.sok hmm
          have hlt := (maySend_iff.1 hmm).2.2
          have hso := sendNext_out (c := c) (s := t)
          refine ⟨own3, sendNext c t, h3, (unhide U1).trans (Upd.of (below_drewN (Below.refl _ _) _) u3), ?_, by omega, by omega⟩
          rw [unhide E1]
          obtain ⟨k', rfl⟩ : ∃ k', gk = k' + 1 := ⟨gk - 1, by omega⟩
          rw [pumpN, if_pos hmm]
          rfl
        have hgk : 0 < gk := by have := (maySend_iff.1 (unhide hm')).2.2; omega
        clear h3 u3 K2 H1 U1 E1 hm'
        go_wp2
        go_roundg (gk - 1)
        case measure => omega
        case rel => exact unhide HR
      · have hm0 : maySend c t = false := eq_false_of_ne_true hm
        rw [hm0] at k1
        have E2 : Hid (pumpN c 16 s = t) := hide (by
          rw [unhide E1]
          cases gk with
          | zero => rfl
          | succ k => rw [pumpN, if_neg hm])
        clear hm hm0
        go_wp2_with fail
        refine k1.mono ?_
        rintro e w2 ⟨rfl, n2, rfl⟩
        clear k1
        have K3 := hide (setTimer_any ((unhide H1).drewN n2))
        go_wp2_with fail
        refine (unhide K3).mono ?_
        rintro e w3 ⟨rfl, own3, h3, u3⟩
        have HR := hide (And.intro h3 ((unhide U1).trans (Upd.of (below_drewN (Below.refl _ _) _) u3)))
        clear h3 u3 K3 H1 U1
        go_wp2
        go_end0
        rw [unhide HP, unhide E2]
        exact ⟨rfl, own3, (unhide HR).1, (unhide HR).2⟩
end
end Go.Proofs.YtkalonhalhdlaaaDoor
