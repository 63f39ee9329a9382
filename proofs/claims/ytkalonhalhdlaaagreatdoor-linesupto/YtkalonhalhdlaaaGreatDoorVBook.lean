/-
  The book with all four kinds of lists, in memory; what one more list of bytes does to it.
-/
import Derived.Test.YtkalonhalhdlaaaGreatDoorRInv
namespace Go.Proofs.YtkalonhalhdlaaaGreatDoor
open Go.RowKit

/-- The book: its four rows, what is in them, and where the two bytes lie that mark a list of lists. -/
structure Bk where
  bs : Value
  fs : Value
  ls : Value
  is : Value
  eb : List Value
  ef : List Value
  el : List Value
  ei : List Value
  mg : Nat → Nat
/-- A block of the book. -/
def Bk.blk (b : Bk) (k : Nat) : Prop :=
  b.bs.ownBlock = some k ∨ b.fs.ownBlock = some k ∨ b.ls.ownBlock = some k ∨ b.is.ownBlock = some k ∨
    (∃ v, v ∈ b.eb ∧ v.ownBlock = some k) ∨ (∃ v, v ∈ b.ef ∧ v.ownBlock = some k) ∨ (∃ v, v ∈ b.el ∧ v.ownBlock = some k) ∨ (∃ v, v ∈ b.ei ∧ v.ownBlock = some k) ∨ ∃ i, i < b.el.length ∧ b.mg i = k
def bkZero : Bk := ⟨.slice none 0 0, .slice none 0 0, .slice none 0 0, .slice none 0 0, [], [], [], [], fun _ => 0⟩
theorem bkZero_blk (k : Nat) : ¬ bkZero.blk k := by
  unfold Bk.blk bkZero
  simp [Value.ownBlock]

def mkF (i : Nat) : List Value := [.int .i64 (-1000 - (i : Int) / 4), .slice none 0 0]
def mkI (i : Nat) : List Value := [.int .i64 (-1000 - (i : Int) / 4)]
def mkL (g : Nat) : List Value := [.slice (some ⟨g, 0, none⟩) 2 2]
theorem mkF_four {n : Nat} (h : n % 4 = 0) (j : Nat) (hj : j < 4) : mkF (n + j) = mkF n := by
  unfold mkF
  have : ((n + j : Nat) : Int) / 4 = (n : Int) / 4 := by omega
  rw [this]
theorem mkI_four {n : Nat} (h : n % 4 = 0) (j : Nat) (hj : j < 4) : mkI (n + j) = mkI n := by
  unfold mkI
  have : ((n + j : Nat) : Int) / 4 = (n : Int) / 4 := by omega
  rw [this]
/-- The two bytes that mark the i-th list of lists. -/
def TwoAt (w : World) (g i : Nat) : Prop := w.heap[g]? = some (.cells #[.int .u8 ((i / 4 % 256 : Nat) : Int), .int .u8 ((i / 1024 % 256 : Nat) : Int)] 5 (0, 0))

structure BkAt (w : World) (wb : Nat) (hs ss : Value) (b : Bk) : Prop where
  head : WAt w wb #[hs, ss, b.bs, b.fs, b.ls, b.is]
  rb : w.ownsRow 0 28 1 b.bs b.eb.length b.eb
  rf : w.ownsRow 0 63 1 b.fs b.ef.length b.ef
  rl : w.ownsRow 0 38 1 b.ls b.el.length b.el
  ri : w.ownsRow 0 62 1 b.is b.ei.length b.ei
  mb : ∀ i v, b.eb[i]? = some v → ∃ k, MarksK w 5 [.int .u8 (markN i : Nat)] v k ∧ k ≤ 1099511627776
  mf : ∀ i v, b.ef[i]? = some v → ∃ k, MarksK w 65 (mkF i) v k ∧ k ≤ 1099511627776
  ml : ∀ i v, b.el[i]? = some v → ∃ k, MarksK w 28 (mkL (b.mg i)) v k ∧ k ≤ 1099511627776
  mi : ∀ i v, b.ei[i]? = some v → ∃ k, MarksK w 3 (mkI i) v k ∧ k ≤ 1099511627776
  two : ∀ i, i < b.el.length → TwoAt w (b.mg i) i
  fb : b.eb.length % 4 = 0
  ff : b.ef.length % 4 = 0
  fl : b.el.length % 4 = 0
  fi : b.ei.length % 4 = 0
  apart : ∀ v ∈ b.el, ∀ k, v.ownBlock = some k → b.bs.ownBlock ≠ some k

theorem ownsRow_keepsB {X : Nat → Prop} {w w' : World} {b0 : Nat} {e : TypeId} {size : Nat} {v : Value} {n : Nat} {xs : List Value} (h : w.ownsRow b0 e size v n xs) (hk : Keeps X w w') (hx : ∀ k, v.ownBlock = some k → ¬ X k) : w'.ownsRow b0 e size v n xs := by
  rcases h.2 with h2 | ⟨g, cap, cur, e1, e2, e3, e4⟩
  · exact ⟨h.1, .inl h2⟩
  · refine ⟨h.1, .inr ⟨g, cap, cur, e1, e2, ?_, e4⟩⟩
    rw [hk.block g (Array.getElem?_eq_some_iff.1 e3).1 (hx g (by rw [e1]; rfl))]
    exact e3
theorem mem_of_get {α : Type} {l : List α} {i : Nat} {v : α} (h : l[i]? = some v) : v ∈ l := List.mem_of_getElem? h

section
variable {w : World} {wb : Nat} {hs ss : Value} {b : Bk}
/-- Which kind of cells a block of the book has. -/
def bkTy (t : TypeId) : Prop := t = 5 ∨ t = 28 ∨ t = 38 ∨ t = 3 ∨ t = 62 ∨ t = 65 ∨ t = 63
theorem BkAt.ty (h : BkAt w wb hs ss b) {k : Nat} (hk : b.blk k) : ∃ c t, w.heap[k]? = some (.cells c t (0, 0)) ∧ bkTy t := by
  rcases hk with hk | hk | hk | hk | ⟨v, hv, hk⟩ | ⟨v, hv, hk⟩ | ⟨v, hv, hk⟩ | ⟨v, hv, hk⟩ | ⟨i, hi, rfl⟩
  · obtain ⟨c, hc⟩ := ownsRow_isRow h.rb hk
    exact ⟨c, _, hc, by unfold bkTy; simp⟩
  · obtain ⟨c, hc⟩ := ownsRow_isRow h.rf hk
    exact ⟨c, _, hc, by unfold bkTy; simp⟩
  · obtain ⟨c, hc⟩ := ownsRow_isRow h.rl hk
    exact ⟨c, _, hc, by unfold bkTy; simp⟩
  · obtain ⟨c, hc⟩ := ownsRow_isRow h.ri hk
    exact ⟨c, _, hc, by unfold bkTy; simp⟩
  · obtain ⟨i, hi⟩ := List.getElem?_of_mem hv
    obtain ⟨n, hm, _⟩ := h.mb i v hi
    obtain ⟨c, hc⟩ := ownsRow_isRow hm hk
    exact ⟨c, _, hc, by unfold bkTy; simp⟩
  · obtain ⟨i, hi⟩ := List.getElem?_of_mem hv
    obtain ⟨n, hm, _⟩ := h.mf i v hi
    obtain ⟨c, hc⟩ := ownsRow_isRow hm hk
    exact ⟨c, _, hc, by unfold bkTy; simp⟩
  · obtain ⟨i, hi⟩ := List.getElem?_of_mem hv
    obtain ⟨n, hm, _⟩ := h.ml i v hi
    obtain ⟨c, hc⟩ := ownsRow_isRow hm hk
    exact ⟨c, _, hc, by unfold bkTy; simp⟩
  · obtain ⟨i, hi⟩ := List.getElem?_of_mem hv
    obtain ⟨n, hm, _⟩ := h.mi i v hi
    obtain ⟨c, hc⟩ := ownsRow_isRow hm hk
    exact ⟨c, _, hc, by unfold bkTy; simp⟩
  · exact ⟨_, _, h.two i hi, by unfold bkTy; simp⟩
theorem BkAt.lt (h : BkAt w wb hs ss b) {k : Nat} (hk : b.blk k) : k < w.heap.size := by
  obtain ⟨c, t, hc, _⟩ := h.ty hk
  exact (Array.getElem?_eq_some_iff.1 hc).1
theorem BkAt.notHead (h : BkAt w wb hs ss b) : ¬ b.blk wb := by
  intro hk
  obtain ⟨c, t, hc, ht⟩ := h.ty hk
  have h1 := h.head
  unfold WAt at h1
  rw [hc] at h1
  simp only [Option.some.injEq, Obj.cells.injEq] at h1
  have h2 := h1.2.1
  unfold bkTy at ht
  rw [h2] at ht
  revert ht
  decide
theorem BkAt.turned {X : Nat → Prop} {w' : World} (h : BkAt w wb hs ss b) (hk : Keeps X w w') (h1 : ¬ X wb) (h2 : ∀ k, b.blk k → ¬ X k) : BkAt w' wb hs ss b := by
  refine ⟨h.head.keeps hk h1, ownsRow_keepsB h.rb hk fun k e => h2 k (.inl e), ownsRow_keepsB h.rf hk fun k e => h2 k (.inr (.inl e)), ownsRow_keepsB h.rl hk fun k e => h2 k (.inr (.inr (.inl e))), ownsRow_keepsB h.ri hk fun k e => h2 k (.inr (.inr (.inr (.inl e)))), ?_, ?_, ?_, ?_, ?_, h.fb, h.ff, h.fl, h.fi, h.apart⟩
  · intro i v hv
    obtain ⟨n, hm, hn⟩ := h.mb i v hv
    exact ⟨n, ownsRow_keepsB hm hk fun k e => h2 k (.inr (.inr (.inr (.inr (.inl ⟨v, mem_of_get hv, e⟩))))), hn⟩
  · intro i v hv
    obtain ⟨n, hm, hn⟩ := h.mf i v hv
    exact ⟨n, ownsRow_keepsB hm hk fun k e => h2 k (.inr (.inr (.inr (.inr (.inr (.inl ⟨v, mem_of_get hv, e⟩)))))), hn⟩
  · intro i v hv
    obtain ⟨n, hm, hn⟩ := h.ml i v hv
    exact ⟨n, ownsRow_keepsB hm hk fun k e => h2 k (.inr (.inr (.inr (.inr (.inr (.inr (.inl ⟨v, mem_of_get hv, e⟩))))))), hn⟩
  · intro i v hv
    obtain ⟨n, hm, hn⟩ := h.mi i v hv
    exact ⟨n, ownsRow_keepsB hm hk fun k e => h2 k (.inr (.inr (.inr (.inr (.inr (.inr (.inr (.inl ⟨v, mem_of_get hv, e⟩)))))))), hn⟩
  · intro i hi
    have ht := h.two i hi
    unfold TwoAt at ht ⊢
    rw [hk.block _ (Array.getElem?_eq_some_iff.1 ht).1 (h2 _ (.inr (.inr (.inr (.inr (.inr (.inr (.inr (.inr ⟨i, hi, rfl⟩)))))))))]
    exact ht
theorem BkAt.later {w' : World} (h : BkAt w wb hs ss b) (hb : Below w.heap.size w w') : BkAt w' wb hs ss b :=
  h.turned (X := fun _ => False) (Keeps.of hb) id (fun _ _ => id)
/-- The World's other rows may turn. -/
theorem BkAt.heads {hs' ss' : Value} {w' : World} (h : BkAt w wb hs ss b) (hk : Keeps (· = wb) w w') (hd : WAt w' wb #[hs', ss', b.bs, b.fs, b.ls, b.is]) : BkAt w' wb hs' ss' b := by
  have hne : ∀ k, b.blk k → ¬ k = wb := fun k hb e => h.notHead (e ▸ hb)
  refine ⟨hd, ownsRow_keepsB h.rb hk fun k e => hne k (.inl e), ownsRow_keepsB h.rf hk fun k e => hne k (.inr (.inl e)), ownsRow_keepsB h.rl hk fun k e => hne k (.inr (.inr (.inl e))), ownsRow_keepsB h.ri hk fun k e => hne k (.inr (.inr (.inr (.inl e)))), ?_, ?_, ?_, ?_, ?_, h.fb, h.ff, h.fl, h.fi, h.apart⟩
  · intro i v hv
    obtain ⟨n, hm, hn⟩ := h.mb i v hv
    exact ⟨n, ownsRow_keepsB hm hk fun k e => hne k (.inr (.inr (.inr (.inr (.inl ⟨v, mem_of_get hv, e⟩))))), hn⟩
  · intro i v hv
    obtain ⟨n, hm, hn⟩ := h.mf i v hv
    exact ⟨n, ownsRow_keepsB hm hk fun k e => hne k (.inr (.inr (.inr (.inr (.inr (.inl ⟨v, mem_of_get hv, e⟩)))))), hn⟩
  · intro i v hv
    obtain ⟨n, hm, hn⟩ := h.ml i v hv
    exact ⟨n, ownsRow_keepsB hm hk fun k e => hne k (.inr (.inr (.inr (.inr (.inr (.inr (.inl ⟨v, mem_of_get hv, e⟩))))))), hn⟩
  · intro i v hv
    obtain ⟨n, hm, hn⟩ := h.mi i v hv
    exact ⟨n, ownsRow_keepsB hm hk fun k e => hne k (.inr (.inr (.inr (.inr (.inr (.inr (.inr (.inl ⟨v, mem_of_get hv, e⟩)))))))), hn⟩
  · intro i hi
    have ht := h.two i hi
    unfold TwoAt at ht ⊢
    rw [hk.block _ (Array.getElem?_eq_some_iff.1 ht).1 (hne _ (.inr (.inr (.inr (.inr (.inr (.inr (.inr (.inr ⟨i, hi, rfl⟩)))))))))]
    exact ht
end
/-- The blocks that one more list turns: the World's, the row's, the list's. -/
def turnB (wb : Nat) (r v : Value) (k : Nat) : Prop := k = wb ∨ some k = r.ownBlock ∨ some k = v.ownBlock

theorem get_four {α : Type} {l : List α} {a b c d u : α} {i : Nat} (h : (l ++ [a, b, c, d])[i]? = some u) : (i < l.length ∧ l[i]? = some u) ∨ ∃ j, j < 4 ∧ i = l.length + j ∧ [a, b, c, d][j]? = some u := by
  by_cases hlt : i < l.length
  · rw [List.getElem?_append_left hlt] at h
    exact .inl ⟨hlt, h⟩
  · rw [List.getElem?_append_right (by omega)] at h
    refine .inr ⟨i - l.length, ?_, by omega, h⟩
    have := (List.getElem?_eq_some_iff.1 h).1
    simpa using this
theorem mem_four {α : Type} {l : List α} {a b c d u : α} (h : u ∈ l ++ [a, b, c, d]) : u ∈ l ∨ u = a ∨ u = b ∨ u = c ∨ u = d := by
  rcases List.mem_append.1 h with h | h
  · exact .inl h
  · simp at h
    exact .inr h

/-- One more list of bytes is kept. -/
theorem keeps_bk {w : World} {wb : Nat} {hs ss v : Value} {b : Bk} {xs : List Value} {n : Nat} (h : BkAt w wb hs ss b) (hv : w.ownsRow 0 5 1 v n xs) (hvb : ∀ k, v.ownBlock = some k → ¬ b.blk k) (hN : b.eb.length ≤ 1099511627776) (hn : n ≤ 1048576) :
    Calls Tryz.prog 34 #[.pointer (some ⟨wb, 2, none⟩), v] w fun e w' => e = .returned (.tuple #[]) ∧ ∃ b' : Bk, BkAt w' wb hs ss b' ∧ b'.eb.length = b.eb.length + 4 ∧ b'.fs = b.fs ∧ b'.ls = b.ls ∧ b'.is = b.is ∧ b'.ef = b.ef ∧ b'.el = b.el ∧ b'.ei = b.ei ∧ b'.mg = b.mg ∧ Keeps (turnB wb b.bs v) w w' ∧ (∀ k, b'.blk k → b.blk k ∨ v.ownBlock = some k ∨ w.heap.size ≤ k) := by
  refine (keeps_any wb (turnB wb b.bs v) (.inl rfl) hs ss b.bs b.fs b.ls b.is v b.eb xs n w h.head h.rb hv (fun k hk => .inl (.inr (.inl hk.symm))) (fun k hk => .inl (.inr (.inr hk.symm))) hN (by omega)).mono ?_
  rintro e w' ⟨rfl, bs', v1, v2, v3, K⟩
  -- which block the row has now
  have hbs : ∀ k, bs'.ownBlock = some k → b.bs.ownBlock = some k ∨ w.heap.size ≤ k := by
    intro k hk
    rcases K.mineB k hk with (hx | hx | hx) | hx
    · exfalso
      obtain ⟨c, hc⟩ := ownsRow_isRow K.row hk
      have h3 := K.head
      unfold WAt at h3
      rw [← hx, hc] at h3
      simp at h3
    · exact .inl hx.symm
    · exfalso
      obtain ⟨c, hc⟩ := ownsRow_isRow K.row hk
      obtain ⟨c2, hc2⟩ := ownsRow_isRow (K.marks (v, n) (by simp)) (k := k) hx.symm
      rw [hc] at hc2
      simp at hc2
    · exact .inr hx
  have hmk : ∀ u : Value × Nat, u ∈ [(v, n), (v1, n + 1), (v2, n + 2), (v3, n + 3)] → ∀ k, u.1.ownBlock = some k → b.blk k ∨ v.ownBlock = some k ∨ w.heap.size ≤ k := by
    intro u hu k hk
    rcases K.mineU u hu k hk with (hx | hx | hx) | hx
    · exfalso
      obtain ⟨c, hc⟩ := ownsRow_isRow (K.marks u hu) hk
      have h3 := K.head
      unfold WAt at h3
      rw [← hx, hc] at h3
      simp at h3
    · exact .inl (.inl hx.symm)
    · exact .inr (.inl hx.symm)
    · exact .inr (.inr hx)
  -- what is not turned
  have hno : ∀ k, b.blk k → b.bs.ownBlock ≠ some k → ¬ turnB wb b.bs v k := by
    rintro k hk hne (rfl | hx | hx)
    · exact h.notHead hk
    · exact hne hx.symm
    · exact hvb k hx.symm hk
  have hty : ∀ {k : Nat} {c : Array Value} {t : TypeId}, w.heap[k]? = some (.cells c t (0, 0)) → t ≠ 28 → b.bs.ownBlock ≠ some k := by
    intro k c t hc ht hk
    obtain ⟨c2, hc2⟩ := ownsRow_isRow h.rb hk
    rw [hc] at hc2
    simp at hc2
    exact ht hc2.2
  have hrow : ∀ {k : Nat} {t : TypeId} {sz m : Nat} {u : Value} {ys : List Value}, w.ownsRow 0 t sz u m ys → u.ownBlock = some k → t ≠ 28 → b.bs.ownBlock ≠ some k := by
    intro k t sz m u ys hr hk ht
    obtain ⟨c, hc⟩ := ownsRow_isRow hr hk
    exact hty hc ht
  refine ⟨rfl, ⟨bs', b.fs, b.ls, b.is, b.eb ++ [v, v1, v2, v3], b.ef, b.el, b.ei, b.mg⟩, ⟨K.head, K.row, ?_, ?_, ?_, ?_, ?_, ?_, ?_, ?_, ?_, h.ff, h.fl, h.fi, ?_⟩, by simp, rfl, rfl, rfl, rfl, rfl, rfl, rfl, K.keeps, ?_⟩
  · exact ownsRow_keepsB h.rf K.keeps fun k e => hno k (.inr (.inl e)) (hrow h.rf e (by decide))
  · exact ownsRow_keepsB h.rl K.keeps fun k e => hno k (.inr (.inr (.inl e))) (hrow h.rl e (by decide))
  · exact ownsRow_keepsB h.ri K.keeps fun k e => hno k (.inr (.inr (.inr (.inl e)))) (hrow h.ri e (by decide))
  · intro i u hi
    rcases get_four hi with ⟨hlt, hi⟩ | ⟨j, hj, rfl, hi⟩
    · obtain ⟨m, hm, hm2⟩ := h.mb i u hi
      exact ⟨m, ownsRow_keepsB hm K.keeps fun k e => hno k (.inr (.inr (.inr (.inr (.inl ⟨u, mem_of_get hi, e⟩))))) (hrow hm e (by decide)), hm2⟩
    · rw [mark_four h.fb j hj]
      have hc : j = 0 ∨ j = 1 ∨ j = 2 ∨ j = 3 := by omega
      rcases hc with rfl | rfl | rfl | rfl <;> (simp at hi; subst hi)
      · exact ⟨n, K.marks (v, n) (by simp), by omega⟩
      · exact ⟨n + 1, K.marks (v1, n + 1) (by simp), by omega⟩
      · exact ⟨n + 2, K.marks (v2, n + 2) (by simp), by omega⟩
      · exact ⟨n + 3, K.marks (v3, n + 3) (by simp), by omega⟩
  · intro i u hi
    obtain ⟨m, hm, hm2⟩ := h.mf i u hi
    exact ⟨m, ownsRow_keepsB hm K.keeps fun k e => hno k (.inr (.inr (.inr (.inr (.inr (.inl ⟨u, mem_of_get hi, e⟩)))))) (hrow hm e (by decide)), hm2⟩
  · intro i u hi
    obtain ⟨m, hm, hm2⟩ := h.ml i u hi
    exact ⟨m, ownsRow_keepsB hm K.keeps fun k e => hno k (.inr (.inr (.inr (.inr (.inr (.inr (.inl ⟨u, mem_of_get hi, e⟩))))))) (h.apart u (mem_of_get hi) k e), hm2⟩
  · intro i u hi
    obtain ⟨m, hm, hm2⟩ := h.mi i u hi
    exact ⟨m, ownsRow_keepsB hm K.keeps fun k e => hno k (.inr (.inr (.inr (.inr (.inr (.inr (.inr (.inl ⟨u, mem_of_get hi, e⟩)))))))) (hrow hm e (by decide)), hm2⟩
  · intro i hi
    have ht := h.two i hi
    unfold TwoAt at ht ⊢
    rw [K.keeps.block _ (Array.getElem?_eq_some_iff.1 ht).1 (hno _ (.inr (.inr (.inr (.inr (.inr (.inr (.inr (.inr ⟨i, hi, rfl⟩)))))))) (hty ht (by decide)))]
    exact ht
  · have := h.fb
    simp
    omega
  · intro u hu k hk hk2
    rcases hbs k hk2 with hx | hx
    · exact h.apart u hu k hk hx
    · have := h.lt (.inr (.inr (.inr (.inr (.inr (.inr (.inl ⟨u, hu, hk⟩)))))))
      omega
  · intro k hk
    rcases hk with hk | hk | hk | hk | ⟨u, hu, hk⟩ | hk | hk | hk | hk
    · rcases hbs k hk with hx | hx
      · exact .inl (.inl hx)
      · exact .inr (.inr hx)
    · exact .inl (.inr (.inl hk))
    · exact .inl (.inr (.inr (.inl hk)))
    · exact .inl (.inr (.inr (.inr (.inl hk))))
    · rcases mem_four hu with hu | rfl | rfl | rfl | rfl
      · exact .inl (.inr (.inr (.inr (.inr (.inl ⟨u, hu, hk⟩)))))
      · exact hmk (u, n) (by simp) k hk
      · exact hmk (u, n + 1) (by simp) k hk
      · exact hmk (u, n + 2) (by simp) k hk
      · exact hmk (u, n + 3) (by simp) k hk
    · exact .inl (.inr (.inr (.inr (.inr (.inr (.inl hk))))))
    · exact .inl (.inr (.inr (.inr (.inr (.inr (.inr (.inl hk)))))))
    · exact .inl (.inr (.inr (.inr (.inr (.inr (.inr (.inr (.inl hk))))))))
    · exact .inl (.inr (.inr (.inr (.inr (.inr (.inr (.inr (.inr hk))))))))
end Go.Proofs.YtkalonhalhdlaaaGreatDoor
