import Derived.Test.YtkalonhalhdlaaaDoorSCall5
import Derived.Test.YtkalonhalhdlaaaDoorSNew2
import Derived.Test.YtkalonhalhdlaaaDoorFBase
import Derived.ArgAppend
/-
  Two stations and what is between them, in memory: frames that are on their way, messages that were given.
-/
namespace Go.Proofs.YtkalonhalhdlaaaDoor
open Go.RowKit

/-- Frames on their way: a list whose first ones were cut off; each frame's bytes are nobody's. -/
def Way (w : World) (own : Nat → Nat) (t : Nat) (v : Value) (l : List Msg) : Prop :=
  ∃ p cap, v = .slice p l.length cap ∧ l.length ≤ cap ∧ cap ≤ maxLen ∧ ((p = none ∧ cap = 0) ∨ ∃ g off cur, p = some ⟨g, off, none⟩ ∧ own g = t ∧ w.heap[g]? = some (.cells cur 22 (0, 0)) ∧ off + cap ≤ cur.size ∧ ∀ (j : Nat) (m : Msg), l[j]? = some m → ∃ x, cur[off + j]? = some x ∧ BytesAt w own 0 x m)

section
variable {w w' : World} {own own' : Nat → Nat} {t : Nat} {v : Value} {l : List Msg} {X : Nat → Prop}
theorem Way.nil (w : World) (own : Nat → Nat) (t : Nat) : Way w own t (.slice none 0 0) [] := ⟨none, 0, rfl, Nat.le_refl _, Nat.zero_le _, .inl ⟨rfl, rfl⟩⟩
/-- Others have worked. -/
theorem Way.keeps (h : Way w own t v l) (hk : Keeps X w w') (hx : ∀ k, X k → own k ≠ t ∧ own k ≠ 0) (ho : ∀ k, k < w.heap.size → own k = t ∨ own k = 0 → own' k = own k) : Way w' own' t v l := by
  obtain ⟨p, cap, rfl, h1, h2, h3⟩ := h
  refine ⟨p, cap, rfl, h1, h2, ?_⟩
  rcases h3 with h3 | ⟨g, off, cur, rfl, hg, hc, hs, he⟩
  · exact .inl h3
  · have hlt := (Array.getElem?_eq_some_iff.1 hc).1
    refine .inr ⟨g, off, cur, rfl, (ho g hlt (.inl hg)).trans hg, ?_, hs, fun j m hj => ?_⟩
    · rw [hk.block g hlt (fun hX => (hx g hX).1 hg)]; exact hc
    · obtain ⟨x, hx1, hx2⟩ := he j m hj
      exact ⟨x, hx1, ownsRow_keepsB hx2.1 hk (fun k hb hX => (hx k hX).2 (hx2.2 k hb)), fun k hb => (ho k (World.ownsRow.lt hx2.1 k hb).2 (.inr (hx2.2 k hb))).trans (hx2.2 k hb)⟩
/-- The first one is cut off. -/
theorem Way.tail {m : Msg} (h : Way w own t v (m :: l)) : ∃ g off cap, v = .slice (some ⟨g, off, none⟩) (l.length + 1) cap ∧ l.length + 1 ≤ cap ∧ cap ≤ maxLen ∧ (∃ p pc, w.cell? ⟨g, off, none⟩ = some (.slice p m.length pc) ∧ SrcIs w p m ∧ m.length ≤ pc ∧ pc ≤ maxLen ∧ ∀ k, (Value.slice p m.length pc).ownBlock = some k → own k = 0) ∧ (∀ off', (off' = off + 1 ∨ (cap = 1 ∧ off' = off)) → Way w own t (.slice (some ⟨g, off', none⟩) l.length (cap - 1)) l) := by
  obtain ⟨p, cap, rfl, h1, h2, h3⟩ := h
  simp only [List.length_cons] at h1 ⊢
  rcases h3 with ⟨_, h3⟩ | ⟨g, off, cur, rfl, hg, hc, hs, he⟩
  · omega
  · refine ⟨g, off, cap, rfl, h1, h2, ?_, fun off' ho' => ⟨_, cap - 1, rfl, by omega, by omega, ?_⟩⟩
    · obtain ⟨x, hx1, hx2⟩ := he 0 m rfl
      rcases hx2.1.2 with ⟨hxn, h0⟩ | ⟨gx, capx, curx, hxe, _, _, hx3, hx4, _⟩
      · refine ⟨none, 0, ?_, .inl ⟨rfl, List.eq_nil_of_length_eq_zero h0⟩, by omega, Nat.zero_le _, fun k hk => by simp [Value.ownBlock] at hk⟩
        rw [Lib.cell_of_heap hc, h0, ← hxn]
        exact hx1
      · refine ⟨some ⟨gx, 0, none⟩, capx, ?_, ?_, hx3, hx4, fun k hk => hx2.2 k (by rw [hxe]; exact hk)⟩
        · rw [Lib.cell_of_heap hc, ← hxe]
          exact hx1
        · have := hx2.1
          rw [hxe] at this
          exact own_src this rfl
    · by_cases hz : l = []
      · subst hz
        exact .inr ⟨g, off', cur, rfl, hg, hc, by omega, fun j m hj => by simp at hj⟩
      · have : 0 < l.length := List.length_pos_iff.2 hz
        have ho2 : off' = off + 1 := by omega
        subst ho2
        refine .inr ⟨g, off + 1, cur, rfl, hg, hc, by omega, fun j m hj => ?_⟩
        obtain ⟨x, hx1, hx2⟩ := he (j + 1) m (by simpa using hj)
        exact ⟨x, by rw [← hx1]; congr 1; omega, hx2⟩

theorem setCells_block (g : Nat) (e : TypeId) (fz : Nat × Nat) : ∀ (vs : List Value) (o : Nat) (w : World) (cur : Array Value), w.heap[g]? = some (.cells cur e fz) → o + vs.length ≤ cur.size →
    ∃ cur', (w.setCells g o vs).heap[g]? = some (.cells cur' e fz) ∧ cur'.size = cur.size ∧ (∀ j, j < o → cur'[j]? = cur[j]?) ∧ (∀ j, j < vs.length → cur'[o + j]? = vs[j]?) := by
  intro vs
  induction vs with
  | nil => exact fun o w cur h _ => ⟨cur, h, rfl, fun _ _ => rfl, fun j hj => by simp at hj⟩
  | cons x r ih =>
    intro o w cur h hl
    simp only [List.length_cons] at hl
    obtain ⟨cur', h1, h2, h3, h4⟩ := ih (o + 1) (w.setCell ⟨g, o, none⟩ x) (cur.setIfInBounds o x) (block_set h x) (by simp; omega)
    refine ⟨cur', h1, by rw [h2]; simp, fun j hj => ?_, fun j hj => ?_⟩
    · rw [h3 j (by omega), Array.getElem?_setIfInBounds_ne (by omega)]
    · rcases j with _ | j
      · rw [Nat.add_zero, h3 o (by omega)]
        simp [show o < cur.size by omega]
      · simp only [List.length_cons] at hj
        rw [show o + (j + 1) = o + 1 + j by omega, h4 j (by omega)]
        rfl
theorem setCells_keeps (g : Nat) : ∀ (vs : List Value) (o : Nat) (w : World), Keeps (· = g) w (w.setCells g o vs) := by
  intro vs
  induction vs with
  | nil => exact fun o w => Keeps.refl _ _
  | cons x r ih => exact fun o w => ((Keeps.refl _ w).setB o x).trans (ih (o + 1) _)
theorem run_append_nil_empty {P : Program} (w : World) (t ty e : TypeId) (i : TypeInfo) (ht : P.underlying t = some (.slice e)) (hi : P.info? e = some i) (a : Addr) (c : Nat) : (Builtin.append_ #[t, t] ty #[.slice none 0 0, .slice (some a) 0 c]).run P w = .ok (.slice none 0 0) w := by
  have hfc := run_firstCells_some (P := P) w i.size 0 a 0 c [] (by simp) (by simp)
  simp [Builtin.append_, run_underlying ht, sizeOf, typeInfo, hi, Builtin.lenOf, hfc]

set_option maxRecDepth 100000 in
/-- append(way, l...): at whatever rows. -/
theorem run_append_way (ty : TypeId) {u : Value} {es : List Value} {l2 : List Msg} (hw : Way w own t v l) (hL : Lst w own 0 u es l2) (ht : t ≠ 0) (hn : ∀ k, w.heap.size ≤ k → own k = 0) (hlen : l.length + l2.length ≤ 2199023255552) :
    ∃ v' w' own', (Builtin.append_ #[46, 46] ty #[v, u]).run Tryd.prog w = .ok v' w' ∧ (∃ p cap, v' = .slice p (l ++ l2).length cap) ∧ Way w' own' t v' (l ++ l2) ∧ Keeps (fun k => own k = t) w w' ∧ (∀ k, k < w.heap.size → own' k = own k) ∧ (∀ k, w'.heap.size ≤ k → own' k = 0) := by
  obtain ⟨i1, hi1, hy0, hy1, hy2⟩ := info_parts infoBytesS
  obtain ⟨p, cap, rfl, h1, h2, h3⟩ := hw
  have hel := hL.len
  -- the entries that are there
  have hex : ∃ olds : List Value, olds.length = l.length * 1 ∧ (∀ b, p = some b → ∀ j u, olds[j]? = some u → w.cell? (b.add j) = some u) ∧ (∀ (j : Nat) (y : Value) (m : Msg), olds[j]? = some y → l[j]? = some m → BytesAt w own 0 y m) := by
    rcases h3 with ⟨rfl, rfl⟩ | ⟨g, off, cur, rfl, hg, hc, hsz, he⟩
    · have : l = [] := List.eq_nil_of_length_eq_zero (by omega)
      subst this
      exact ⟨[], rfl, fun b hb => (by cases hb), fun j y m hj => by simp at hj⟩
    · refine ⟨(List.range l.length).map (fun j => cur[off + j]?.getD (.slice none 0 0)), by simp, fun b hb j u hj => ?_, fun j y m hj hm => ?_⟩
      · simp only [Option.some.injEq] at hb
        subst hb
        have hj2 : j < l.length := by
          have := (List.getElem?_eq_some_iff.1 hj).1
          simpa using this
        have hc2 : off + j < cur.size := by omega
        simp [hj2, hc2] at hj
        rw [Go.WideShapes.add_plain, Lib.cell_of_heap hc]
        simp [hc2, hj]
      · have hj2 : j < l.length := by
          have := (List.getElem?_eq_some_iff.1 hj).1
          simpa using this
        obtain ⟨z, hz1, hz2⟩ := he j m hm
        simp [hj2, hz1] at hj
        rw [← hj]
        exact hz2
  obtain ⟨olds, ho1, ho2, ho3⟩ := hex
  have hes : ∀ u ∈ es, u.oneCell' = true := by
    intro u hu
    obtain ⟨p, n, c, rfl⟩ := hL.slices u hu
    rfl
  have hbytes : ∀ {w'' : World} {own'' : Nat → Nat}, Keeps (fun k => own k = t) w w'' → (∀ k, k < w.heap.size → own'' k = own k) → ∀ (j : Nat) (m : Msg), (l ++ l2)[j]? = some m → ∀ y, (olds ++ es)[j]? = some y → BytesAt w'' own'' 0 y m := by
    intro w'' own'' hk hown j m hm y hy
    have hb : BytesAt w own 0 y m := by
      by_cases hj : j < l.length
      · rw [List.getElem?_append_left hj] at hm
        rw [List.getElem?_append_left (by omega)] at hy
        exact ho3 j y m hy hm
      · rw [List.getElem?_append_right (by omega)] at hm
        rw [List.getElem?_append_right (by omega)] at hy
        rw [ho1, Nat.mul_one] at hy
        exact hL.each _ y m hy hm
    exact hb.keeps hk (fun k hk => by rw [hk]; exact ht) hown
  -- a row of its own, new
  have hgrown : ∀ v' w', w'.ownsRow w.heap.size 22 1 v' (l.length + l2.length) (olds ++ es) → w.grownBy w' none → 0 < l.length + l2.length → ∃ own', (∃ p cap, v' = .slice p (l ++ l2).length cap) ∧ Way w' own' t v' (l ++ l2) ∧ Keeps (fun k => own k = t) w w' ∧ (∀ k, k < w.heap.size → own' k = own k) ∧ (∀ k, w'.heap.size ≤ k → own' k = 0) := by
    intro v' w' hrow hg hpos
    have hK1 : Keeps (fun k => own k = t) w w' := (Keeps.grown hg).mono (fun k hk => by cases hk)
    have hold : ∀ k, k < w.heap.size → ownNew own w.heap.size w'.heap.size t k = own k := fun k hk => ownNew_old hk
    have hz := hg.size
    rcases hrow.2 with ⟨_, h0⟩ | ⟨g, cap', cur, rfl, hge, hcg, hcl, hcm, hcs, htk⟩
    · omega
    · refine ⟨ownNew own w.heap.size w'.heap.size t, ⟨_, cap', by rw [List.length_append]⟩, ⟨_, cap', by rw [List.length_append], by rw [List.length_append]; exact hcl, hcm, .inr ⟨g, 0, cur, rfl, ownNew_new hge (Array.getElem?_eq_some_iff.1 hcg).1, hcg, by omega, fun j m hm => ?_⟩⟩, hK1, hold, fun k hk => ownNew_0 (by omega) hk⟩
      have hj : j < l.length + l2.length := by
        have := (List.getElem?_eq_some_iff.1 hm).1
        simpa using this
      obtain ⟨y, hjo⟩ : ∃ y, (olds ++ es)[j]? = some y := ⟨_, List.getElem?_eq_getElem (show j < (olds ++ es).length by rw [List.length_append]; omega)⟩
      refine ⟨_, ?_, hbytes hK1 hold j m hm _ hjo⟩
      have e1 : cur.toList[j]? = (olds ++ es)[j]? := by
        rw [← htk, List.getElem?_take, if_pos (by omega)]
      rw [Nat.zero_add, ← hjo, ← e1]
      simp
  -- the list that is appended
  rcases hL.row.2 with ⟨rfl, h0⟩ | ⟨g2, cap2, cur2, rfl, _, hc2, hn2, hm2, hs2, ht2⟩
  · have hl2 : l2 = [] := List.eq_nil_of_length_eq_zero h0
    subst hl2
    have hes0 : es = [] := List.eq_nil_of_length_eq_zero (by simpa using hel)
    refine ⟨.slice p l.length cap, w, own, ?_, ⟨p, cap, by simp⟩, ?_, Keeps.refl _ _, fun _ _ => rfl, hn⟩
    · rcases h3 with ⟨rfl, rfl⟩ | ⟨g, off, cur, rfl, hg, hc, hsz, he⟩
      · have e0 : l.length = 0 := by omega
        rw [e0]
        exact run_append_owned_none w 0 _ _ _ i1 1 Tryd.underlying46 hi1 _ 0 [] (World.ownsRow_nil _ _ _ _)
      · have := run_append_room_src (P := Tryd.prog) w _ _ ty _ i1 Tryd.underlying46 hi1 g off l.length cap (.slice none 0 0) 0 [] (Src.ofNil w Tryd.underlying46 0) h1 (by simp) (by simp)
        simpa [World.setCells] using this
    · rw [List.append_nil]
      exact ⟨p, cap, rfl, h1, h2, h3⟩
  · have hnews : ∀ j u, es[j]? = some u → w.cell? ((⟨g2, 0, none⟩ : Addr).add j) = some u := by
      intro j u hj
      have hjl := (List.getElem?_eq_some_iff.1 hj).1
      rw [Go.WideShapes.add_plain, Nat.zero_add, hL.row.cellAt j (by omega)]
      exact hj
    by_cases hpos : 0 < l.length + l2.length
    · rcases h3 with ⟨rfl, rfl⟩ | ⟨g, off, cur, rfl, hg, hc, hsz, he⟩
      · have e0 : l.length = 0 := by omega
        have eo : olds = [] := List.eq_nil_of_length_eq_zero (by omega)
        obtain ⟨v', w', hr, hown, hg, _⟩ := run_append_own_at (P := Tryd.prog) w w.heap.size _ ty 22 i1 _ 1 24 Tryd.underlying46 hi1 hy0 hy1 hy2 rfl (by decide) (.slice none 0 0) 0 [] (World.ownsRow_nil _ _ _ _) ⟨g2, 0, none⟩ l2.length cap2 es (by omega) hnews hes (by unfold maxLen; omega) (by omega) (Nat.le_refl _)
        rw [e0]
        obtain ⟨own', q1, q2, q3, q4, q5⟩ := hgrown v' w' (by rw [e0, eo]; exact hown) hg hpos
        exact ⟨v', w', own', hr, q1, q2, q3, q4, q5⟩
      · by_cases hr : l.length + l2.length ≤ cap
        · obtain ⟨cur', hc', hs', hlo, hin⟩ := setCells_block g 22 (0, 0) es (off + l.length * 1) w cur hc (by omega)
          have hKg := setCells_keeps g es (off + l.length * 1) w
          have hK1 : Keeps (fun k => own k = t) w (w.setCells g (off + l.length * 1) es) := hKg.mono (fun k hk => by rw [hk]; exact hg)
          have hrun := run_append_room_cells (P := Tryd.prog) w _ ty _ i1 Tryd.underlying46 hi1 g off l.length cap ⟨g2, 0, none⟩ l2.length cap2 es (by rw [hy1]; omega) hnews hes hr (fun j hj => by
            have h7 : off + l.length * i1.size + j < cur.size := by rw [hy1]; omega
            rw [Lib.cell_of_heap hc]
            show (cur[off + l.length * i1.size + j]?).isSome = true
            rw [Array.getElem?_eq_getElem h7]
            rfl) (fun j hj => Lib.frozen_of_heap hc _)
          rw [hy1] at hrun
          refine ⟨_, _, own, hrun, ⟨_, cap, by rw [List.length_append]⟩, ⟨_, cap, by rw [List.length_append], by rw [List.length_append]; exact hr, h2, .inr ⟨g, off, cur', rfl, hg, hc', by omega, fun j m hm => ?_⟩⟩, hK1, fun _ _ => rfl, fun k hk => hn k (Nat.le_trans hKg.size hk)⟩
          have hj : j < l.length + l2.length := by
            have := (List.getElem?_eq_some_iff.1 hm).1
            simpa using this
          obtain ⟨y, hjo⟩ : ∃ y, (olds ++ es)[j]? = some y := ⟨_, List.getElem?_eq_getElem (show j < (olds ++ es).length by rw [List.length_append]; omega)⟩
          refine ⟨_, ?_, hbytes hK1 (fun _ _ => rfl) j m hm _ hjo⟩
          rw [← hjo]
          by_cases hjl : j < l.length
          · rw [List.getElem?_append_left (by omega), hlo (off + j) (by omega)]
            have h5 : olds[j]? = some olds[j] := List.getElem?_eq_getElem (by omega)
            have h6 := ho2 _ rfl j _ h5
            rw [Go.WideShapes.add_plain, Lib.cell_of_heap hc] at h6
            rw [h6, h5]
          · rw [List.getElem?_append_right (by omega), show off + j = off + l.length * 1 + (j - l.length) by omega, hin (j - l.length) (by omega), ho1, Nat.mul_one]
        · obtain ⟨v', w', hrun, hown, hg2⟩ := run_append_arg_grows (P := Tryd.prog) w _ ty 22 i1 _ 1 24 Tryd.underlying46 hi1 hy0 hy1 hy2 rfl (by decide) ⟨g, off, none⟩ l.length cap olds ho1 (ho2 _ rfl) ⟨g2, 0, none⟩ l2.length cap2 es (by omega) hnews (by omega) (by unfold maxLen; omega) (by omega)
          obtain ⟨own', q1, q2, q3, q4, q5⟩ := hgrown v' w' hown hg2 hpos
          exact ⟨v', w', own', hrun, q1, q2, q3, q4, q5⟩
    · have e1 : l.length = 0 := by omega
      have e2 : l2.length = 0 := by omega
      have el : l = [] := List.eq_nil_of_length_eq_zero e1
      have el2 : l2 = [] := List.eq_nil_of_length_eq_zero e2
      subst el el2
      rcases h3 with ⟨rfl, rfl⟩ | ⟨g, off, cur, rfl, hg, hc, hsz, he⟩
      · exact ⟨.slice none 0 0, w, own, run_append_nil_empty w _ _ _ i1 Tryd.underlying46 hi1 _ _, ⟨none, 0, rfl⟩, Way.nil _ _ _, Keeps.refl _ _, fun _ _ => rfl, hn⟩
      · have hes0 : es = [] := List.eq_nil_of_length_eq_zero (by simpa using hel)
        subst hes0
        have := run_append_room_cells (P := Tryd.prog) w _ ty _ i1 Tryd.underlying46 hi1 g off 0 cap ⟨g2, 0, none⟩ 0 cap2 [] (by simp) (by simp) (by simp) (by omega) (by simp) (by simp)
        exact ⟨_, _, own, by simpa [World.setCells] using this, ⟨_, cap, rfl⟩, ⟨_, cap, rfl, h1, h2, .inr ⟨g, off, cur, rfl, hg, hc, hsz, he⟩⟩, Keeps.refl _ _, fun _ _ => rfl, hn⟩

/-- .. as one step of a region that draws. -/
theorem step_append_way {ops : Array Oper} {o : Oper} {a : Act} {K : Act → World → Prop} {Q : Exit → Act → World → Prop} {E : Prop} (hgd : o.guard = none) (s x : Operand)
    (ho : o.op = .call { callee := .builtin .append, args := #[s, x], argTypes := #[46, 46] })
    {u : Value} {es : List Value} {l2 : List Msg} (hs : a.eval s = v) (hx : a.eval x = u) (hw : Way w own t v l) (hL : Lst w own 0 u es l2) (ht : t ≠ 0) (hn : ∀ k, w.heap.size ≤ k → own k = 0) (hlen : l.length + l2.length ≤ 2199023255552)
    (hK : ∀ v' w' own', (∃ p cap, v' = .slice p (l ++ l2).length cap) → Way w' own' t v' (l ++ l2) → Keeps (fun k => own k = t) w w' → (∀ k, k < w.heap.size → own' k = own k) → (∀ k, w'.heap.size ≤ k → own' k = 0) → K (a.put o.dst v') w') :
    if Region.wanted o (yielded ops a.tmps) = true then Oper.wp Tryd.prog o a w K Q else E := by
  have hw2 : Region.wanted o (yielded ops a.tmps) = true := by simp [Region.wanted, hgd]
  rw [if_pos hw2]
  obtain ⟨v', w', own', hr, q1, q2, q3, q4, q5⟩ := run_append_way o.type hw hL ht hn hlen
  unfold Oper.wp execOp
  simp only [ho, resolve, invoke, builtin, Sem.run_bind, Sem.run_pure, Result.andThen_ok, List.map_toArray, List.map_cons, List.map_nil, hs, hx, hr]
  exact hK v' w' own' q1 q2 q3 q4 q5
end
end Go.Proofs.YtkalonhalhdlaaaDoor

/-
  The link in memory, whole; a call of one of its stations leaves the rest as it was.
-/
namespace Go.Proofs.YtkalonhalhdlaaaDoor
open Go.RowKit

def upd {α : Type} (f : Nat → α) (i : Nat) (x : α) : Nat → α := fun j => if j = i then x else f j
theorem upd_same {α : Type} (f : Nat → α) (i : Nat) (x : α) : upd f i x i = x := by simp [upd]
theorem upd_other {α : Type} (f : Nat → α) {i j : Nat} (x : α) (h : j ≠ i) : upd f i x j = f j := by simp [upd, h]

def lkCells (b : Nat → Nat) (v g : Nat → Value) (t : Nat → Nat) (en : Bool) : Array Value :=
  #[.pointer (some ⟨b 0, 0, none⟩), .pointer (some ⟨b 1, 0, none⟩), v 0, v 1, g 0, g 1, .int .i64 (t 0), .int .i64 (t 1), .bool en]

theorem Lst.keepsR {w w' : World} {own own' : Nat → Nat} {t : Nat} {v : Value} {ents : List Value} {l : List Msg} {X : Nat → Prop} (h : Lst w own t v ents l) (hk : Keeps X w w') (hx : ∀ k, X k → own k ≠ t) (ho : ∀ k, k < w.heap.size → own k = t → own' k = own k) : Lst w' own' t v ents l :=
  ⟨ownsRow_keepsB h.row hk (fun k hb hX => hx k hX (h.rown k hb)), fun k hb => (ho k (World.ownsRow.lt h.row k hb).2 (h.rown k hb)).trans (h.rown k hb), fun j y mm h1 h2 => by
    have hb := h.each j y mm h1 h2
    exact ⟨ownsRow_keepsB hb.1 hk (fun k hbk hX => hx k hX (hb.2 k hbk)), fun k hbk => (ho k (World.ownsRow.lt hb.1 k hbk).2 (hb.2 k hbk)).trans (hb.2 k hbk)⟩⟩
theorem Stn.others {w w' : World} {own own' : Nat → Nat} {i b : Nat} {c : Cfg} {s : St} {cl : Bool} (h : Stn w own i b c s cl) {X : Nat → Prop} (hk : Keeps X w w') (hx : ∀ k, X k → own k ≠ 0 ∧ ∀ p, p < 5 → own k ≠ tg i p) (ho : ∀ k, k < w.heap.size → (own k = 0 ∨ ∃ p, p < 5 ∧ own k = tg i p) → own' k = own k) (hn : ∀ k, w'.heap.size ≤ k → own' k = 0) : Stn w' own' i b c s cl := by
  obtain ⟨ch, q, cm, o, ev, qe, ce, oe, h⟩ := h
  have hlc := (Array.getElem?_eq_some_iff.1 h.chan).1
  have hx' : ∀ p, p < 5 → ∀ k, X k → own k ≠ tg i p := fun p hp k hX => (hx k hX).2 p hp
  have ho' : ∀ p, p < 5 → ∀ k, k < w.heap.size → own k = tg i p → own' k = own k := fun p hp k hk e => ho k hk (.inr ⟨p, hp, e⟩)
  refine ⟨ch, q, cm, o, ev, qe, ce, oe, ?_, (ho' 0 (by omega) b h.lt h.ownb).trans h.ownb, ?_, (ho' 0 (by omega) ch hlc h.ownc).trans h.ownc, h.lq.keepsR hk (hx' 1 (by omega)) (ho' 1 (by omega)), h.lcm.keepsR hk (hx' 2 (by omega)) (ho' 2 (by omega)), h.lo.keepsR hk (hx' 3 (by omega)) (ho' 3 (by omega)), ownsRow_keepsB h.lev hk (fun k hb hX => hx' 4 (by omega) k hX (h.owne k hb)), fun k hb => (ho' 4 (by omega) k (World.ownsRow.lt h.lev k hb).2 (h.owne k hb)).trans (h.owne k hb), h.ctl.keeps hk h.pos (fun hX => (hx 0 hX).1 h.own0), (ho 0 h.pos (.inl h.own0)).trans h.own0, hn, h.cok, h.sok⟩
  · rw [hk.block b h.lt (fun hX => hx' 0 (by omega) b hX h.ownb)]; exact h.head
  · rw [hk.block ch hlc (fun hX => hx' 0 (by omega) ch hX h.ownc)]; exact h.chan
theorem Stn.new0 {w : World} {own : Nat → Nat} {i b : Nat} {c : Cfg} {s : St} {cl : Bool} (h : Stn w own i b c s cl) : ∀ k, w.heap.size ≤ k → own k = 0 := by
  obtain ⟨ch, q, cm, o, ev, qe, ce, oe, h⟩ := h
  exact h.new0
theorem Stn.own0 {w : World} {own : Nat → Nat} {i b : Nat} {c : Cfg} {s : St} {cl : Bool} (h : Stn w own i b c s cl) : own 0 = 0 ∧ 0 < w.heap.size ∧ Ctl w ∧ c.ok := by
  obtain ⟨ch, q, cm, o, ev, qe, ce, oe, h⟩ := h
  exact ⟨h.own0, h.pos, h.ctl, h.cok⟩

/-- The link. -/
structure KAt (w : World) (own : Nat → Nat) (kb : Nat) (b : Nat → Nat) (c : Nat → Cfg) (s : Nat → St) (v g : Nat → Value) (l : Nat → List Msg) (n : Nat → List ByteArray) (t : Nat → Nat) (en : Bool) : Prop where
  head : w.heap[kb]? = some (.cells (lkCells b v g t en) 51 (0, 0))
  ownk : own kb = tg 2 0
  st : ∀ i, i < 2 → Stn w own i (b i) (c i) (s i) false
  sok : ∀ i, i < 2 → (s i).ok (c i)
  way : ∀ i, i < 2 → Way w own (tg 2 (1 + i)) (v i) (l i)
  giv : ∀ i, i < 2 → w.ownsRow 0 9 1 (g i) (n i).length ((n i).map Value.string) ∧ ∀ k, (g i).ownBlock = some k → own k = tg 2 (3 + i)

section
variable {w w' : World} {own own' : Nat → Nat} {kb : Nat} {b : Nat → Nat} {c : Nat → Cfg} {s : Nat → St} {v g : Nat → Value} {l : Nat → List Msg} {n : Nat → List ByteArray} {t : Nat → Nat} {en : Bool}
theorem KAt.lt (h : KAt w own kb b c s v g l n t en) : kb < w.heap.size := (Array.getElem?_eq_some_iff.1 h.head).1
theorem KAt.cell (h : KAt w own kb b c s v g l n t en) (j : Nat) {x : Value} (hj : (lkCells b v g t en)[j]? = some x) : w.cell? ⟨kb, j, none⟩ = some x := by
  rw [Lib.cell_of_heap h.head]; exact hj
theorem KAt.fz (h : KAt w own kb b c s v g l n t en) (j : Nat) : w.frozen? ⟨kb, j, none⟩ = false := Lib.frozen_of_heap h.head j
/-- New memory alone. -/
theorem KAt.later (h : KAt w own kb b c s v g l n t en) (hb : Below w.heap.size w w') : KAt w' own kb b c s v g l n t en := by
  have hk : Keeps (fun _ => False) w w' := Keeps.of hb
  have hn : ∀ k, w'.heap.size ≤ k → own k = 0 := fun k hs => (h.st 0 (by omega)).new0 k (Nat.le_trans hb.size hs)
  refine ⟨by rw [hk.block kb h.lt id]; exact h.head, h.ownk, fun i hi => (h.st i hi).others hk (fun _ hX => absurd hX id) (fun _ _ _ => rfl) hn, h.sok, fun i hi => (h.way i hi).keeps hk (fun _ hX => absurd hX id) (fun _ _ _ => rfl), fun i hi => ⟨ownsRow_keepsB (h.giv i hi).1 hk (fun _ _ hX => hX), (h.giv i hi).2⟩⟩
/-- A call of station i. -/
theorem KAt.called (h : KAt w own kb b c s v g l n t en) {i : Nat} (hi : i < 2) {s' : St} (hu : UpdF i own own' w w') (hs : Stn w' own' i (b i) (c i) s' false) (hok : s'.ok (c i)) : KAt w' own' kb b c (upd s i s') v g l n t en := by
  have hX : ∀ j q, q < 5 → j ≠ i → ∀ k, (∃ p, p < 5 ∧ own k = tg i p) → own k ≠ tg j q := fun j q hq hj k ⟨p, hp, e⟩ => by rw [e]; exact tg_ne hp hq (.inl (fun e => hj e.symm))
  have hX0 : ∀ k, (∃ p, p < 5 ∧ own k = tg i p) → own k ≠ 0 := fun k ⟨p, _, e⟩ => by rw [e]; exact tg_pos _ _
  have hsame : ∀ k, k < w.heap.size → ¬ (∃ p, p < 5 ∧ own k = tg i p) → own' k = own k := fun k hk hne => by
    rcases hu.same k hk with e | ⟨e, _⟩
    · exact e
    · exact absurd e hne
  have hsj : ∀ j q, q < 5 → j ≠ i → ∀ k, k < w.heap.size → own k = tg j q → own' k = own k := fun j q hq hj k hk e => hsame k hk (fun hh => hX j q hq hj k hh e)
  have hs0 : ∀ k, k < w.heap.size → own k = 0 → own' k = own k := fun k hk e => hsame k hk (fun hh => hX0 k hh e)
  refine ⟨?_, ?_, ?_, ?_, ?_, ?_⟩
  · rw [hu.keeps.block kb h.lt (fun hh => hX 2 0 (by omega) (by omega) kb hh h.ownk)]; exact h.head
  · rw [hsj 2 0 (by omega) (by omega) kb h.lt h.ownk]; exact h.ownk
  · intro j hj
    by_cases e : j = i
    · subst e
      rw [upd_same]
      exact hs
    · rw [upd_other _ _ e]
      refine (h.st j hj).others hu.keeps (fun k hh => ⟨hX0 k hh, fun p hp => hX j p hp e k hh⟩) (fun k hk hh => ?_) hs.new0
      rcases hh with hh | ⟨p, hp, hh⟩
      · exact hs0 k hk hh
      · exact hsj j p hp e k hk hh
  · intro j hj
    by_cases e : j = i
    · subst e
      rw [upd_same]
      exact hok
    · rw [upd_other _ _ e]
      exact h.sok j hj
  · intro j hj
    refine (h.way j hj).keeps hu.keeps (fun k hh => ⟨hX 2 (1 + j) (by omega) (by omega) k hh, hX0 k hh⟩) (fun k hk hh => ?_)
    rcases hh with hh | hh
    · exact hsj 2 (1 + j) (by omega) (by omega) k hk hh
    · exact hs0 k hk hh
  · intro j hj
    refine ⟨ownsRow_keepsB (h.giv j hj).1 hu.keeps (fun k hb hh => hX 2 (3 + j) (by omega) (by omega) k hh ((h.giv j hj).2 k hb)), fun k hb => ?_⟩
    rw [hsj 2 (3 + j) (by omega) (by omega) k (World.ownsRow.lt (h.giv j hj).1 k hb).2 ((h.giv j hj).2 k hb)]
    exact (h.giv j hj).2 k hb
/-- The link's block is written: lists of frames and messages stay. -/
theorem KAt.wrote (h : KAt w own kb b c s v g l n t en) {t' : Nat → Nat} {en' : Bool} (hk : Keeps (· = kb) w w') (hh : w'.heap[kb]? = some (.cells (lkCells b v g t' en') 51 (0, 0))) : KAt w' own kb b c s v g l n t' en' := by
  have hne : ∀ j q, q < 5 → (j ≠ 2 ∨ q ≠ 0) → ∀ k, k = kb → own k ≠ tg j q := fun j q hq hj k hk => by rw [hk, h.ownk]; exact tg_ne (by omega) hq (by omega)
  have hn0 : ∀ k, k = kb → own k ≠ 0 := fun k hk => by rw [hk, h.ownk]; exact tg_pos _ _
  exact ⟨hh, h.ownk, fun i hi => (h.st i hi).others hk (fun k hX => ⟨hn0 k hX, fun p hp => hne i p hp (.inl (by omega)) k hX⟩) (fun _ _ _ => rfl) (fun k hs => (h.st 0 (by omega)).new0 k (Nat.le_trans hk.size hs)), h.sok, fun i hi => (h.way i hi).keeps hk (fun k hX => ⟨hne 2 (1 + i) (by omega) (.inr (by omega)) k hX, hn0 k hX⟩) (fun _ _ _ => rfl), fun i hi => ⟨ownsRow_keepsB (h.giv i hi).1 hk (fun k hb hX => hne 2 (3 + i) (by omega) (.inr (by omega)) k hX ((h.giv i hi).2 k hb)), (h.giv i hi).2⟩⟩
end
end Go.Proofs.YtkalonhalhdlaaaDoor

/-
  What one call of looks does to the link.
-/
namespace Go.Proofs.YtkalonhalhdlaaaDoor
open Go.RowKit

/-- A fence: what lies ahead of lo, and the blocks X. -/
structure Fen where
  lo : Nat
  X : Nat → Prop
  hi : Nat
  bd : ∀ k, X k → k < hi
/-- With one block x. -/
def fen (lo x : Nat) : Fen := ⟨lo, fun k => k = x, x + 1, fun k h => by omega⟩
def Fen.top (B : Fen) : Nat := max B.lo B.hi
theorem Fen.top_le {B : Fen} {n : Nat} (h : B.top ≤ n) : B.lo ≤ n ∧ ∀ k, B.X k → k < n := by
  unfold Fen.top at h
  exact ⟨by omega, fun k hk => by have := B.bd k hk; omega⟩
/-- Nothing within the fence has turned. -/
structure Bel (B : Fen) (w w' : World) : Prop where
  below : Below B.lo w w'
  ext : ∀ k, B.X k → k < w.heap.size → w'.heap[k]? = w.heap[k]?
theorem Bel.size {B : Fen} {w w' : World} (h : Bel B w w') : w.heap.size ≤ w'.heap.size := h.below.size
theorem Bel.refl (B : Fen) (w : World) : Bel B w w := ⟨Below.refl _ _, fun _ _ _ => rfl⟩
theorem Bel.trans {B : Fen} {a b c : World} (h : Bel B a b) (k : Bel B b c) : Bel B a c := ⟨h.below.trans k.below, fun y hy hx => (k.ext y hy (Nat.lt_of_lt_of_le hx h.size)).trans (h.ext y hy hx)⟩
theorem Bel.of {B : Fen} {w w' : World} (h : Below w.heap.size w w') (hB : B.top ≤ w.heap.size) : Bel B w w' := ⟨h.mono (Fen.top_le hB).1, fun y _ hx => (show Keeps (fun _ => False) w w' from Keeps.of h).block y hx id⟩
theorem Bel.drew {B : Fen} {w w' : World} (h : Bel B w w') : Bel B w w'.drew := ⟨h.below.drew, h.ext⟩
/-- What is owned lies outside of the fence. -/
def Lo (B : Fen) (own : Nat → Nat) : Prop := ∀ k, own k ≠ 0 → B.lo ≤ k ∧ ¬ B.X k
theorem Bel.keeps {B : Fen} {own : Nat → Nat} {w w' : World} {X : Nat → Prop} (h : Lo B own) (hB : B.top ≤ w.heap.size) (hk : Keeps X w w') (hx : ∀ k, X k → own k ≠ 0) : Bel B w w' :=
  ⟨⟨hk.os, hk.tape, hk.output, hk.size, fun k hkB => hk.block k (by have := (Fen.top_le hB).1; omega) (fun hX => by have := (h k (hx k hX)).1; omega)⟩, fun y hy hxs => hk.block y hxs (fun hX => (h y (hx y hX)).2 hy)⟩
theorem Lo.of {B : Fen} {own own' : Nat → Nat} {w w' : World} {X : Nat → Prop} (h : Lo B own) (hB : B.top ≤ w.heap.size) (hk : Keeps X w w') (hx : ∀ k, X k → own k ≠ 0) (ho : ∀ k, k < w.heap.size → own' k = own k ∨ own' k = 0) : Lo B own' ∧ Bel B w w' := by
  refine ⟨fun k hk2 => ?_, Bel.keeps h hB hk hx⟩
  by_cases hlt : k < w.heap.size
  · rcases ho k hlt with e | e
    · exact h k (by rw [← e]; exact hk2)
    · exact absurd e hk2
  · obtain ⟨t1, t2⟩ := Fen.top_le hB
    exact ⟨by omega, fun hX => hlt (t2 k hX)⟩
theorem Lo.updF {B : Fen} {i : Nat} {own own' : Nat → Nat} {w w' : World} (h : Lo B own) (hB : B.top ≤ w.heap.size) (hu : UpdF i own own' w w') : Lo B own' ∧ Bel B w w' :=
  h.of hB hu.keeps (fun k ⟨p, _, e⟩ => by rw [e]; exact tg_pos _ _) (fun k hk => by rcases hu.same k hk with e | e; exact .inl e; exact .inr e.2)

section
variable {w w' : World} {own own' : Nat → Nat} {kb : Nat} {b : Nat → Nat} {c : Nat → Cfg} {s : Nat → St} {v g : Nat → Value} {l : Nat → List Msg} {n : Nat → List ByteArray} {t : Nat → Nat} {en : Bool}

/-- A list of frames has grown, and the link's block is written. -/
theorem KAt.wayed (h : KAt w own kb b c s v g l n t en) {i : Nat} (hi : i < 2) {v' : Value} {l' : List Msg} {w2 : World} {own2 : Nat → Nat}
    (hW : Way w2 own2 (tg 2 (1 + i)) v' l') (hk : Keeps (fun k => own k = tg 2 (1 + i)) w w2) (hs : ∀ k, k < w.heap.size → own2 k = own k) (hn : ∀ k, w2.heap.size ≤ k → own2 k = 0) :
    w2.heap[kb]? = some (.cells (lkCells b v g t en) 51 (0, 0)) ∧ KAt (w2.setCell ⟨kb, 2 + i, none⟩ v') own2 kb b c s (upd v i v') g (upd l i l') n t en := by
  have hkb : ¬ own kb = tg 2 (1 + i) := by rw [h.ownk]; exact tg_ne (by omega) (by omega) (.inr (by omega))
  have hh : w2.heap[kb]? = some (.cells (lkCells b v g t en) 51 (0, 0)) := by rw [hk.block kb h.lt hkb]; exact h.head
  refine ⟨hh, ?_⟩
  have hX : ∀ j q, q < 5 → (j ≠ 2 ∨ (q ≠ 0 ∧ q ≠ 1 + i)) → ∀ k, (own k = tg 2 (1 + i) ∨ k = kb) → own k ≠ tg j q := by
    intro j q hq hj k hk
    rcases hk with hk | hk
    · rw [hk]; exact tg_ne (by omega) hq (by omega)
    · rw [hk, h.ownk]; exact tg_ne (by omega) hq (by omega)
  have hX0 : ∀ k, (own k = tg 2 (1 + i) ∨ k = kb) → own k ≠ 0 := by
    intro k hk
    rcases hk with hk | hk
    · rw [hk]; exact tg_pos _ _
    · rw [hk, h.ownk]; exact tg_pos _ _
  have hKb : Keeps (· = kb) w2 (w2.setCell ⟨kb, 2 + i, none⟩ v') := (Keeps.refl _ w2).setB _ _
  have hK : Keeps (fun k => own k = tg 2 (1 + i) ∨ k = kb) w (w2.setCell ⟨kb, 2 + i, none⟩ v') := (hk.mono (fun _ h => .inl h)).trans (hKb.mono (fun _ h => .inr h))
  have hkb2 : own2 kb = tg 2 0 := (hs kb h.lt).trans h.ownk
  have hn' : ∀ k, (w2.setCell ⟨kb, 2 + i, none⟩ v').heap.size ≤ k → own2 k = 0 := fun k hk2 => hn k (by rw [size_setCell] at hk2; exact hk2)
  refine ⟨?_, hkb2, fun j hj => (h.st j hj).others hK (fun k hk => ⟨hX0 k hk, fun p hp => hX j p hp (.inl (by omega)) k hk⟩) (fun k hk _ => hs k hk) hn', h.sok, ?_, fun j hj => ⟨ownsRow_keepsB (h.giv j hj).1 hK (fun k hb hk => hX 2 (3 + j) (by omega) (.inr (by omega)) k hk ((h.giv j hj).2 k hb)), fun k hb => (hs k (World.ownsRow.lt (h.giv j hj).1 k hb).2).trans ((h.giv j hj).2 k hb)⟩⟩
  · have := block_set (j := 2 + i) hh v'
    rw [this]
    have hc : i = 0 ∨ i = 1 := by omega
    rcases hc with rfl | rfl <;> rfl
  · intro j hj
    by_cases e : j = i
    · subst e
      rw [upd_same, upd_same]
      exact hW.keeps hKb (fun k hk => by rw [hk, hkb2]; exact ⟨tg_ne (by omega) (by omega) (.inr (by omega)), tg_pos _ _⟩) (fun _ _ _ => rfl)
    · rw [upd_other _ _ e, upd_other _ _ e]
      exact (h.way j hj).keeps hK (fun k hk => ⟨hX 2 (1 + j) (by omega) (.inr (by omega)) k hk, hX0 k hk⟩) (fun k hk _ => hs k hk)

/-- Out of station i. -/
theorem KAt.outed (h : KAt w own kb b c s v g l n t en) {i : Nat} (hi : i < 2) {ch : Nat} {q cm o ev : Value} {qe ce oe : List Value} (hS : SAt w own i (b i) (c i) (s i) false ch q cm o ev qe ce oe) {w1 : World}
    (h1 : SAt w1 own i (b i) (c i) { s i with out := [] } false ch q cm (.slice none 0 0) ev qe ce []) (hL : Lst w1 own (tg i 3) o oe (s i).out) (hK : Keeps (· = b i) w w1) :
    KAt w1 (freed own (tg i 3)) kb b c (upd s i { s i with out := [] }) v g l n t en ∧ Lst w1 (freed own (tg i 3)) 0 o oe (s i).out ∧ UpdF i own (freed own (tg i 3)) w w1 := by
  have hu : UpdF i own (freed own (tg i 3)) w w1 := UpdF.freed (by omega) hK hS.ownb (Upd.refl _ _ _)
  exact ⟨h.called hi hu ⟨_, _, _, _, _, _, _, _, h1.freed3 rfl⟩ (outS_ok (h.sok i hi) _), hL.freed, hu⟩
theorem KAt.evented (h : KAt w own kb b c s v g l n t en) {i : Nat} (hi : i < 2) {ch : Nat} {q cm o ev : Value} {qe ce oe : List Value} (hS : SAt w own i (b i) (c i) (s i) false ch q cm o ev qe ce oe) {w1 : World}
    (h1 : SAt w1 own i (b i) (c i) { s i with events := [] } false ch q cm o (.slice none 0 0) qe ce oe) (hK : Keeps (· = b i) w w1) :
    KAt w1 (freed own (tg i 4)) kb b c (upd s i { s i with events := [] }) v g l n t en ∧ UpdF i own (freed own (tg i 4)) w w1 := by
  have hu : UpdF i own (freed own (tg i 4)) w w1 := UpdF.freed (by omega) hK hS.ownb (Upd.refl _ _ _)
  exact ⟨h.called hi hu ⟨_, _, _, _, _, _, _, _, h1.freed4⟩ (eventsS_ok (h.sok i hi) _), hu⟩
/-- Only what the first two say counts. -/
theorem KAt.congr (h : KAt w own kb b c s v g l n t en) {s' : Nat → St} {l' : Nat → List Msg} (hs : ∀ i, i < 2 → s' i = s i) (hl : ∀ i, i < 2 → l' i = l i) : KAt w own kb b c s' v g l' n t en :=
  ⟨h.head, h.ownk, fun i hi => by rw [hs i hi]; exact h.st i hi, fun i hi => by rw [hs i hi]; exact h.sok i hi, fun i hi => by rw [hl i hi]; exact h.way i hi, h.giv⟩
end

/-- A station whose frames were taken away, and whose events were told. -/
def looked (s : St) : St := { s with out := [], events := [] }
def lookedTo (s : Nat → St) (j : Nat) : Nat → St := fun i => if i < j then looked (s i) else s i
def wayTo (s : Nat → St) (l : Nat → List Msg) (j : Nat) : Nat → List Msg := fun i => if i < j then l i ++ (s i).out else l i
def endTo (s : Nat → St) (en : Bool) : Nat → Bool
  | 0 => en
  | j + 1 => endTo s en j || decide (0 < (s j).events.length)

/-- Amid the looking. -/
def LookInv (B : Fen) (w : World) (kb : Nat) (b : Nat → Nat) (c : Nat → Cfg) (s : Nat → St) (g : Nat → Value) (l : Nat → List Msg) (n : Nat → List ByteArray) (t : Nat → Nat) (en : Bool) (j : Nat) (wr : World) : Prop :=
  ∃ own' v', KAt wr own' kb b c (lookedTo s j) v' g (wayTo s l j) n t (endTo s en j) ∧ Lo B own' ∧ Bel B w wr

set_option maxHeartbeats 8000000 in
set_option maxRecDepth 100000 in
theorem looks_link {B : Fen} {w : World} {own : Nat → Nat} {kb : Nat} {b : Nat → Nat} {c : Nat → Cfg} {s : Nat → St} {v g : Nat → Value} {l : Nat → List Msg} {n : Nat → List ByteArray} {t : Nat → Nat} {en : Bool}
    (h : KAt w own kb b c s v g l n t en) (hlo : Lo B own) (hB : B.top ≤ w.heap.size) (hlen : ∀ i, i < 2 → (l i).length + (s i).out.length ≤ 2199023255552) :
    Calls Tryd.prog 26 #[.pointer (some ⟨kb, 0, none⟩)] w fun e w' => e = .returned (.bool true) ∧ LookInv B w kb b c s g l n t en 2 w' := by
  have HI : Hid (LookInv B w kb b c s g l n t en 0 w) := hide ⟨own, v, h.congr (fun i _ => by simp [lookedTo]) (fun i _ => by simp [wayTo]), hlo, Bel.refl _ _⟩
  clear h hlo
  go_enter Tryd.func26, Tryd.ntmps26
  go_wp2
  go_loopg [3] 2 (fun k i wr => ∃ j : Nat, j + k = 2 ∧ i = .int .i64 j ∧ LookInv B w kb b c s g l n t en j wr)
  case atStart => exact ⟨0, rfl, rfl, unhide HI⟩
  case round =>
    obtain ⟨j, hjk, rfl, own1, v1, h1, hlo1, hb1⟩ := hrel
    have hB1 : B.top ≤ wr.heap.size := Nat.le_trans hB hb1.size
    by_cases hj : j < 2
    · obtain ⟨ch, q, cm, o, ev, qe, ce, oe, hS⟩ := h1.st j hj
      have hsj : lookedTo s j j = s j := by simp [lookedTo]
      have hlj : wayTo s l j j = l j := by simp [wayTo]
      have k1 := out_any hS
      simp only [Bool.false_eq_true, if_false] at k1
      have cS : wr.cell? ⟨kb, j, none⟩ = some (.pointer (some ⟨b j, 0, none⟩)) := h1.cell j (by have : j = 0 ∨ j = 1 := (by omega); rcases this with rfl | rfl <;> rfl)
      have K1 := hide k1
      have H1 := hide h1
      have HS := hide hS
      have HLO := hide hlo1
      have HB1 := hide hb1
      clear k1 h1 hS hlo1 hb1 HI
      go_wp2_with fail
      refine (unhide K1).mono ?_
      rintro e w2 ⟨rfl, hS2, hL2, hK2⟩
      obtain ⟨h2, hL2', hu2⟩ := (unhide H1).outed hj (unhide HS) hS2 hL2 hK2
      obtain ⟨hlo2, hb2⟩ := (unhide HLO).updF hB1 hu2
      have hB2 : B.top ≤ w2.heap.size := Nat.le_trans hB1 hb2.size
      have h2d : KAt w2.drew _ kb b c _ v1 g _ n t _ := h2.later ((Below.refl _ w2).drew)
      have hWd := h2d.way j hj
      have hLd : Lst w2.drew (freed own1 (tg j 3)) 0 o oe (lookedTo s j j).out := hL2'.keepsR (X := fun _ => False) ((Keeps.refl _ w2).drew) (fun _ hX => absurd hX id) (fun _ _ _ => rfl)
      have c2 : w2.cell? ⟨kb, 2 + j, none⟩ = some (v1 j) := h2.cell (2 + j) (by have : j = 0 ∨ j = 1 := (by omega); rcases this with rfl | rfl <;> rfl)
      have f2 := h2.fz
      have hlj2 : (wayTo s l j j).length + (lookedTo s j j).out.length ≤ 2199023255552 := by rw [hlj, hsj]; exact hlen j hj
      have HW := hide hWd
      have HL := hide hLd
      have H2 := hide h2d
      have HLO2 := hide hlo2
      have HB2 := hide ((unhide HB1).trans hb2)
      have hn2 := (h2d.st 0 (by omega)).new0
      have HN2 := hide hn2
      have HLEN := hide hlj2
      clear K1 hS2 hL2 hK2 h2 hL2' hu2 hlo2 hb2 h2d hWd hLd hn2 hlj2 H1 HS HLO HB1 cS
      go_wp2_with fail
      go_region_law ((refine step_append_way (by rfl) _ _ (by rfl) (by rfl) (by rfl) (unhide HW) (unhide HL) (tg_pos _ _) (unhide HN2) (unhide HLEN) ?_; intro v3 w3 own3 hsh hW3 hk3 hs3 hn3; obtain ⟨p3, c3, hv3⟩ := hsh; subst hv3; have hwy := (unhide H2).wayed hj hW3 hk3 hs3 hn3; have f3 : ∀ i, w3.frozen? ⟨kb, i, none⟩ = false := (fun i => Lib.frozen_of_heap hwy.1 i); have d3 : w3.cell? ⟨kb, 2 + j, none⟩ = some (v1 j) := (by rw [Lib.cell_of_heap hwy.1]; have : j = 0 ∨ j = 1 := (by omega); rcases this with rfl | rfl <;> rfl)))
      have e3 : (wayTo s l j j ++ (lookedTo s j j).out).length = (l j).length + (s j).out.length := by rw [List.length_append, hlj, hsj]
      have h4 := hwy.2
      have hl3 := (unhide HLO2).of (w := w2.drew) (own' := own3) hB2 hk3 (fun k hk => by rw [show freed own1 (tg j 3) k = tg 2 (1 + j) from hk]; exact tg_pos _ _) (fun k hk => .inl (hs3 k hk))
      have hK4 : Keeps (· = kb) w3 (w3.setCell ⟨kb, 2 + j, none⟩ (.slice p3 (wayTo s l j j ++ (lookedTo s j j).out).length c3)) := (Keeps.refl _ w3).setB _ _
      have hl4 := hl3.1.of (w := w3) (own' := own3) (Nat.le_trans hB2 hl3.2.size) hK4 (fun k hk => by rw [hk, h4.ownk]; exact tg_pos _ _) (fun _ _ => .inl rfl)
      have hb4 := (((unhide HB2).drew).trans hl3.2).trans hl4.2
      rw [e3] at h4 hb4 hl4
      have hB4 : B.top ≤ (w3.setCell ⟨kb, 2 + j, none⟩ (.slice p3 ((l j).length + (s j).out.length) c3)).heap.size := by rw [size_setCell]; exact Nat.le_trans hB2 hl3.2.size
      have hst4 := h4.st j hj
      rw [upd_same] at hst4
      obtain ⟨ch4, q4, cm4, o4, ev4, qe4, ce4, oe4, hS4⟩ := hst4
      obtain ⟨evp, evc, hev⟩ := row_slice hS4.lev
      subst hev
      have k5 := events_any hS4
      simp only [Bool.false_eq_true, if_false] at k5
      have c4 : (w3.setCell ⟨kb, 2 + j, none⟩ (.slice p3 ((l j).length + (s j).out.length) c3)).cell? ⟨kb, j, none⟩ = some (.pointer (some ⟨b j, 0, none⟩)) := h4.cell j (by have : j = 0 ∨ j = 1 := (by omega); rcases this with rfl | rfl <;> rfl)
      have K5 := hide k5
      have H4 := hide h4
      have HS4 := hide hS4
      have HB4 := hide hb4
      have HLO4 := hide hl3.1
      clear hwy h4 hl3 hK4 hl4 hb4 hS4 k5 f3 d3 f2 c2 HW HL H2 HLO2 HB2 HN2 HLEN hk3 hs3 hn3 hW3
      generalize (w3.setCell ⟨kb, 2 + j, none⟩ (.slice p3 ((l j).length + (s j).out.length) c3)) = W4 at *
      go_wp2_with fail
      refine (unhide K5).mono ?_
      rintro e w5 ⟨rfl, hS5, _, hK5⟩
      have hev5 := (unhide H4).evented (s := _) hj (by rw [upd_same]; exact unhide HS4) (by rw [upd_same]; exact hS5) hK5
      obtain ⟨h5, hu5⟩ := hev5
      obtain ⟨hlo5, hb5⟩ := (unhide HLO4).updF hB4 hu5
      have c8 : w5.cell? ⟨kb, 8, none⟩ = some (.bool (endTo s en j)) := h5.cell 8 rfl
      have f5 := h5.fz
      have hfin : ∀ e1 : Bool, e1 = endTo s en (j + 1) → LookInv B w kb b c s g l n t en (j + 1) (w5.setCell ⟨kb, 8, none⟩ (.bool e1)) := by
        intro e1 he1
        subst he1
        have hK6 : Keeps (· = kb) w5 (w5.setCell ⟨kb, 8, none⟩ (.bool (endTo s en (j + 1)))) := (Keeps.refl _ w5).setB _ _
        have h6 := h5.wrote (t' := t) (en' := endTo s en (j + 1)) hK6 (by have := block_set (j := 8) h5.head (.bool (endTo s en (j + 1))); rw [this]; rfl)
        have hl6 := hlo5.of (w := w5) (own' := freed own3 (tg j 4)) (Nat.le_trans hB4 hb5.size) hK6 (fun k hk => by rw [hk, h6.ownk]; exact tg_pos _ _) (fun _ _ => .inl rfl)
        refine ⟨_, _, h6.congr (fun i hi => ?_) (fun i hi => ?_), hl6.1, ((unhide HB4).trans hb5).trans hl6.2⟩
        · by_cases e : i = j
          · subst e
            rw [upd_same, upd_same]
            simp [lookedTo, looked]
          · rw [upd_other _ _ e, upd_other _ _ e]
            by_cases e2 : i < j
            · simp [lookedTo, e2, show i < j + 1 by omega]
            · simp [lookedTo, e2, show ¬ i < j + 1 by omega]
        · by_cases e : i = j
          · subst e
            rw [upd_same]
            simp [wayTo, lookedTo]
          · rw [upd_other _ _ e]
            by_cases e2 : i < j
            · simp [wayTo, e2, show i < j + 1 by omega]
            · simp [wayTo, e2, show ¬ i < j + 1 by omega]
      have HFIN := hide hfin
      have hesj : (lookedTo s j j).events.length = (s j).events.length := by rw [hsj]
      have HES := hide hesj
      have hend : endTo s en (j + 1) = (endTo s en j || decide (0 < (s j).events.length)) := rfl
      have HEND := hide hend
      clear K5 hS5 hK5 h5 hu5 hlo5 hb5 hfin H4 HS4 HB4 HLO4 hesj hend
      cases hen : endTo s en j with
      | true =>
        rw [hen] at c8 HEND
        clear hen
        go_wp2
        go_roundg (gk - 1)
        case measure => omega
        case rel => exact ⟨j + 1, by omega, by go_num, unhide HFIN true (by rw [unhide HEND]; rfl)⟩
      | false =>
        rw [hen] at c8 HEND
        clear hen
        go_wp2
        go_roundg (gk - 1)
        case measure => omega
        case rel => exact ⟨j + 1, by omega, by go_num, unhide HFIN _ (by rw [unhide HEND]; simp)⟩
    · have hj2 : j = 2 := by omega
      have HR : Hid (LookInv B w kb b c s g l n t en 2 wr) := hide (by rw [← hj2]; exact ⟨own1, v1, h1, hlo1, hb1⟩)
      clear h1 hlo1 hb1 HI
      go_wp2
      go_ret
      exact ⟨rfl, unhide HR⟩
end Go.Proofs.YtkalonhalhdlaaaDoor
