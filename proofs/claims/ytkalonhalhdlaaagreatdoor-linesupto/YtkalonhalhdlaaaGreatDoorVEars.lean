import Derived.Test.YtkalonhalhdlaaaGreatDoorVFnds
import Derived.Test.YtkalonhalhdlaaaGreatDoorVMath
import Derived.Test.YtkalonhalhdlaaaGreatDoorRFeed3
import Derived.BigQuiet
/-
  The law's World where a line is played: hunters by twos, and the book.
-/
namespace Go.Proofs.YtkalonhalhdlaaaGreatDoor
open Go.RowKit

theorem hearH_told (h : HS) (b : Bool) (f : Nat × List UInt8) (ok : h.ok) (e : (hearH h b).2 = some f) : f.2.length ≤ 66 := by
  have hj : ∀ n, (judgeL h.held n).2.length ≤ 66 := by
    intro n
    unfold judgeL
    split
    · simp
    · split
      · simp
      · split
        · simp
        · split
          · have := ok.1
            simp only [List.length_take]
            omega
          · simp
  have ha : ∀ g : HS, (abortH g).2 = some f → f.2.length ≤ 66 := by
    intro g hg
    unfold abortH at hg
    simp only at hg
    split at hg
    · cases hg
      simp
    · cases hg
  unfold hearH at e
  split at e
  · unfold oneH one2H at e
    split at e
    · exact ha _ e
    · split at e <;> cases e
  · simp only at e
    unfold noughtH at e
    split at e
    · unfold endH at e
      simp only at e
      split at e
      · cases e
        exact hj _
      · cases e
    · split at e <;> cases e
theorem feedH_bytes (h : HS) (l : List Bool) (ok : h.ok) : ∀ f ∈ (feedH h l).2, f.2.length ≤ 66 := by
  induction l generalizing h with
  | nil => simp [feedH]
  | cons b r ih =>
    intro f hf
    simp only [feedH, List.mem_append] at hf
    rcases hf with hf | hf
    · refine hearH_told h b f ok ?_
      cases hq : (hearH h b).2 with
      | none => rw [hq] at hf; simp at hf
      | some g => rw [hq] at hf; simp at hf; rw [hf]
    · exact ih _ (hearH_ok h b ok) f hf

/-- A hunter of the program and the document's, in memory and in plain words. -/
structure Ear where
  hb : Nat
  h : HS
  rb : Nat
  s : IH
  cnt : Nat
  v : Value
def Ear.blk (e : Ear) (k : Nat) : Prop := k = e.hb ∨ k = e.rb ∨ e.v.ownBlock = some k
structure EarAt (w : World) (e : Ear) : Prop where
  hunter : HunterAt w e.hb e.h
  ok : e.h.ok
  head : RHead w e.rb e.s.on e.cnt e.v
  row : w.ownsRow 0 4 1 e.v e.s.has.length (e.s.has.map Value.bool)
  c : e.s.c = min e.cnt 7
  iok : IOk e.s
  sim : Sim e.h e.s
def earTy (t : TypeId) : Prop := t = 106 ∨ t = 72 ∨ t = 4
section
variable {w : World} {e : Ear}
theorem EarAt.ty (h : EarAt w e) {k : Nat} (hk : e.blk k) : ∃ c t, w.heap[k]? = some (.cells c t (0, 0)) ∧ earTy t := by
  rcases hk with rfl | rfl | hk
  · exact ⟨_, _, h.hunter, .inl rfl⟩
  · exact ⟨_, _, h.head, .inr (.inl rfl)⟩
  · obtain ⟨c, hc⟩ := ownsRow_isRow h.row hk
    exact ⟨c, _, hc, .inr (.inr rfl)⟩
theorem EarAt.lt (h : EarAt w e) {k : Nat} (hk : e.blk k) : k < w.heap.size := by
  obtain ⟨c, t, hc, _⟩ := h.ty hk
  exact (Array.getElem?_eq_some_iff.1 hc).1
/-- A block with other cells is none of an ear's. -/
theorem EarAt.not (h : EarAt w e) {k : Nat} {c : Array Value} {t : TypeId} {fz : Nat × Nat} (hk : w.heap[k]? = some (.cells c t fz)) (ht : ¬ earTy t) : ¬ e.blk k := by
  intro hb
  obtain ⟨c2, t2, hc, h2⟩ := h.ty hb
  rw [hk] at hc
  simp only [Option.some.injEq, Obj.cells.injEq] at hc
  exact ht (hc.2.1 ▸ h2)
theorem EarAt.turned {X : Nat → Prop} {w' : World} (h : EarAt w e) (hk : Keeps X w w') (hx : ∀ k, e.blk k → ¬ X k) : EarAt w' e :=
  ⟨h.hunter.keeps hk (hx _ (.inl rfl)), h.ok, h.head.keeps hk (hx _ (.inr (.inl rfl))), ownsRow_keepsB h.row hk (fun k hk => hx k (.inr (.inr hk))), h.c, h.iok, h.sim⟩
theorem EarAt.later {w' : World} (h : EarAt w e) (hb : Below w.heap.size w w') : EarAt w' e :=
  h.turned (X := fun _ => False) (Keeps.of hb) (fun _ _ => id)
end
theorem earTy_bk {t : TypeId} (h : earTy t) : ¬ bkTy t := by
  unfold earTy at h
  unfold bkTy
  rcases h with rfl | rfl | rfl <;> decide

def earV (e : Ear) : Value := .agg #[.pointer (some ⟨e.hb, 0, none⟩), .pointer (some ⟨e.rb, 0, none⟩)]
def earCells : List Ear → List Value
  | [] => []
  | e :: r => .pointer (some ⟨e.hb, 0, none⟩) :: .pointer (some ⟨e.rb, 0, none⟩) :: earCells r
theorem earCells_length (es : List Ear) : (earCells es).length = es.length * 2 := by
  induction es with
  | nil => rfl
  | cons x r ih => simp [earCells, ih]; omega
theorem earCells_append (es fs : List Ear) : earCells (es ++ fs) = earCells es ++ earCells fs := by
  induction es with
  | nil => rfl
  | cons x r ih => simp [earCells, ih]
theorem earCells_get (es : List Ear) (i : Nat) (hi : i < es.length) : (earCells es)[i * 2]? = some (.pointer (some ⟨es[i].hb, 0, none⟩)) ∧ (earCells es)[i * 2 + 1]? = some (.pointer (some ⟨es[i].rb, 0, none⟩)) := by
  induction es generalizing i with
  | nil => simp at hi
  | cons x r ih =>
    cases i with
    | zero => simp [earCells]
    | succ i =>
      have := ih i (by simpa using hi)
      rw [show (i + 1) * 2 = i * 2 + 1 + 1 by omega]
      simpa [earCells] using this
theorem earCells_set (es : List Ear) (i : Nat) (e : Ear) (hi : i < es.length) (h1 : e.hb = es[i].hb) (h2 : e.rb = es[i].rb) : earCells (es.set i e) = earCells es := by
  induction es generalizing i with
  | nil => simp at hi
  | cons x r ih =>
    cases i with
    | zero => simp at h1 h2; simp [earCells, h1, h2]
    | succ i => simp [earCells, ih i (by simpa using hi) (by simpa using h1) (by simpa using h2)]
theorem pairwise_set {α : Type} {R : α → α → Prop} {l : List α} {i : Nat} {a : α} (h : l.Pairwise R) (h1 : ∀ j (hj : j < l.length), j < i → R l[j] a) (h2 : ∀ j (hj : j < l.length), i < j → R a l[j]) : (l.set i a).Pairwise R := by
  rw [List.pairwise_iff_getElem] at h ⊢
  intro j k hj hk hjk
  rw [List.length_set] at hj hk
  rw [List.getElem_set, List.getElem_set]
  by_cases e1 : i = j
  · subst e1
    rw [if_pos rfl, if_neg (by omega)]
    exact h2 k hk hjk
  · rw [if_neg e1]
    by_cases e2 : i = k
    · subst e2
      rw [if_pos rfl]
      exact h1 j hj hjk
    · rw [if_neg e2]
      exact h j k hj hk hjk

/-- The law's World: hunters and the book. -/
structure Lw where
  hs : Value
  es : List Ear
  b : Bk
structure LwAt (B : Nat) (w : World) (wb : Nat) (ss : Value) (x : Lw) : Prop where
  bk : BkAt w wb x.hs ss x.b
  row : w.ownsRow 0 51 2 x.hs x.es.length (earCells x.es)
  ears : ∀ e ∈ x.es, EarAt w e
  apart : x.es.Pairwise fun e f => ∀ k, e.blk k → ¬ f.blk k
  lo : B ≤ wb
  loH : ∀ k, x.hs.ownBlock = some k → B ≤ k
  loB : ∀ k, x.b.blk k → B ≤ k
  loE : ∀ e ∈ x.es, ∀ k, e.blk k → B ≤ k
/-- How much there is at most. -/
structure Lw.small (x : Lw) (M : Nat) : Prop where
  es : x.es.length ≤ M
  eb : x.b.eb.length ≤ 4 * M
  ef : x.b.ef.length ≤ 4 * M
  el : x.b.el.length ≤ 4 * M
  ei : x.b.ei.length ≤ 4 * M
  ears : ∀ e ∈ x.es, e.cnt ≤ M ∧ e.s.has.length ≤ M
theorem Lw.small.mono {x : Lw} {M N : Nat} (h : x.small M) (hle : M ≤ N) : x.small N :=
  ⟨Nat.le_trans h.es hle, by have := h.eb; omega, by have := h.ef; omega, by have := h.el; omega, by have := h.ei; omega, fun e he => by have := h.ears e he; omega⟩
section
variable {B : Nat} {w : World} {wb : Nat} {ss : Value} {x : Lw}
theorem LwAt.later {w' : World} (h : LwAt B w wb ss x) (hb : Below w.heap.size w w') : LwAt B w' wb ss x :=
  ⟨h.bk.later hb, ownsRow_keepsB (X := fun _ => False) h.row (Keeps.of hb) (fun _ _ => id), fun e he => (h.ears e he).later hb, h.apart, h.lo, h.loH, h.loB, h.loE⟩
end
/-- What a step leaves: the World of the law, grown by at most n; nothing older than it is turned. -/
def Lft (B : Nat) (wb : Nat) (ss : Value) (M : Nat) (w w' : World) : Prop := ∃ x' : Lw, LwAt B w' wb ss x' ∧ x'.small M ∧ Below B w w'
/-- The blocks that a step on a hunter may turn. -/
def lwBlk (wb : Nat) (x : Lw) (k : Nat) : Prop := k = wb ∨ x.b.blk k ∨ ∃ e ∈ x.es, e.blk k
/-- What a step on a hunter leaves. -/
def Lfs (x : Lw) (B : Nat) (wb : Nat) (ss : Value) (M : Nat) (w w' : World) : Prop := ∃ x' : Lw, LwAt B w' wb ss x' ∧ x'.small M ∧ Below B w w' ∧ Keeps (lwBlk wb x) w w' ∧ x'.hs = x.hs
theorem Lfs.lft {x : Lw} {B wb M : Nat} {ss : Value} {w w' : World} (h : Lfs x B wb ss M w w') : Lft B wb ss M w w' := by
  obtain ⟨x', h1, h2, h3, _⟩ := h
  exact ⟨x', h1, h2, h3⟩
theorem Lfs.behind {x : Lw} {B wb M : Nat} {ss : Value} {w W w' : World} (h : Lfs x B wb ss M W w') (hb : Below w.heap.size w W) (hB : B ≤ w.heap.size) : Lfs x B wb ss M w w' := by
  obtain ⟨x', h1, h2, h3, h4, h5⟩ := h
  exact ⟨x', h1, h2, (hb.mono hB).trans h3, (Keeps.of hb).trans h4, h5⟩
theorem looks_lw {B : Nat} {w : World} {wb : Nat} {ss : Value} {x : Lw} {M : Nat} (h : LwAt B w wb ss x) (hs : x.small M) (hM : M ≤ 200000000000) :
    Calls Tryz.prog 13 #[.pointer (some ⟨wb, 2, none⟩)] w fun e w' => e = .returned (.bool true) ∧ w' = w :=
  looks_bk wb x.hs ss x.b w h.bk (by have := hs.eb; omega) (by have := hs.ef; omega) (by have := hs.el; omega) (by have := hs.ei; omega)
end Go.Proofs.YtkalonhalhdlaaaGreatDoor

/-
  What one call of the law's feeds does.
-/
namespace Go.Proofs.YtkalonhalhdlaaaGreatDoor
open Go.RowKit

theorem apart_get {es : List Ear} (h : es.Pairwise fun e f => ∀ k, e.blk k → ¬ f.blk k) {i j : Nat} (hi : i < es.length) (hj : j < es.length) (hne : j ≠ i) : ∀ k, es[j].blk k → ¬ es[i].blk k := by
  intro k h1 h2
  rw [List.pairwise_iff_getElem] at h
  by_cases hlt : j < i
  · exact h j i hj hi hlt k h1 h2
  · exact h i j hi hj (by omega) k h2 h1

theorem keeps_below {X : Nat → Prop} {B : Nat} {w w' : World} (h : Keeps X w w') (hX : ∀ k, X k → B ≤ k) (hB : B ≤ w.heap.size) : Below B w w' :=
  ⟨h.os, h.tape, h.output, h.size, fun k hk => h.block k (by omega) (fun hx => by have := hX k hx; omega)⟩

theorem feeds_mid {B : Nat} {w w2 : World} {wb : Nat} {ss : Value} {x : Lw} (h : LwAt B w wb ss x) {i : Nat} (hi : i < x.es.length) {e' : Ear} (hk : Keeps x.es[i].blk w w2) (he : EarAt w2 e') (h1 : e'.hb = x.es[i].hb) (h2 : e'.rb = x.es[i].rb)
    (hv : ∀ k, e'.blk k → x.es[i].blk k ∨ w.heap.size ≤ k) (hB : B ≤ w.heap.size) : LwAt B w2 wb ss { x with es := x.es.set i e' } ∧ Below B w w2 := by
  have hmem : x.es[i] ∈ x.es := List.getElem_mem hi
  have hE := h.ears _ hmem
  have hnb : ∀ k, x.b.blk k → ¬ x.es[i].blk k := by
    intro k hb
    obtain ⟨c, t, hc, ht⟩ := h.bk.ty hb
    exact hE.not hc (fun hq => earTy_bk hq ht)
  have hnw : ¬ x.es[i].blk wb := hE.not h.bk.head (by unfold earTy; decide)
  have hnr : ∀ k, x.hs.ownBlock = some k → ¬ x.es[i].blk k := by
    intro k hk
    obtain ⟨c, hc⟩ := ownsRow_isRow h.row hk
    exact hE.not hc (by unfold earTy; decide)
  have hoth : ∀ j (hj : j < x.es.length), j ≠ i → ∀ k, x.es[j].blk k → ¬ x.es[i].blk k := fun j hj hne => apart_get h.apart hi hj hne
  refine ⟨⟨h.bk.turned hk hnw hnb, ?_, ?_, ?_, h.lo, h.loH, h.loB, ?_⟩, keeps_below hk (fun k hk => h.loE _ hmem k hk) hB⟩
  · show w2.ownsRow 0 _ 2 x.hs (x.es.set i e').length (earCells (x.es.set i e'))
    rw [List.length_set, earCells_set x.es i e' hi h1 h2]
    exact ownsRow_keepsB h.row hk hnr
  · intro f hf
    obtain ⟨j, hj, rfl⟩ := List.mem_iff_getElem.1 hf
    rw [List.length_set] at hj
    rw [List.getElem_set]
    by_cases hij : i = j
    · rw [if_pos hij]
      exact he
    · rw [if_neg hij]
      exact (h.ears _ (List.getElem_mem hj)).turned hk (hoth j hj (fun e => hij e.symm))
  · refine pairwise_set h.apart ?_ ?_
    · intro j hj hlt k h3 h4
      rcases hv k h4 with h5 | h5
      · exact hoth j hj (by omega) k h3 h5
      · have := (h.ears _ (List.getElem_mem hj)).lt h3
        omega
    · intro j hj hlt k h4 h3
      rcases hv k h4 with h5 | h5
      · exact hoth j hj (by omega) k h3 h5
      · have := (h.ears _ (List.getElem_mem hj)).lt h3
        omega
  · intro f hf k hk
    rcases List.mem_or_eq_of_mem_set hf with hf | rfl
    · exact h.loE f hf k hk
    · rcases hv k hk with h5 | h5
      · exact h.loE _ hmem k h5
      · omega

theorem feeds_end {B : Nat} {w w2 : World} {wb : Nat} {ss v : Value} {t : Told} {x : Lw} {b' : Bk} (h : LwAt B w wb ss x) (hb : BkAt w2 wb x.hs ss b') (hk : Keeps (fun k => k = wb ∨ x.b.blk k ∨ toldBlk v t k) w w2)
    (ht : ∀ k, toldBlk v t k → B ≤ k ∧ ∃ c ty fz, w.heap[k]? = some (.cells c ty fz) ∧ (ty = 65 ∨ ty = 5)) (hv : ∀ k, b'.blk k → x.b.blk k ∨ toldBlk v t k ∨ w.heap.size ≤ k) (hB : B ≤ w.heap.size) : LwAt B w2 wb ss { x with b := b' } ∧ Below B w w2 := by
  have hlo : ∀ k, (k = wb ∨ x.b.blk k ∨ toldBlk v t k) → B ≤ k := by
    rintro k (rfl | h1 | h1)
    · exact h.lo
    · exact h.loB k h1
    · exact (ht k h1).1
  have hty : ∀ {k : Nat} {c : Array Value} {ty : TypeId} {fz : Nat × Nat}, w.heap[k]? = some (.cells c ty fz) → ty ≠ 45 → ¬ bkTy ty → ¬ (k = wb ∨ x.b.blk k ∨ toldBlk v t k) := by
    rintro k c ty fz hc h1 h2 (rfl | h3 | h3)
    · have h4 := h.bk.head
      unfold WAt at h4
      rw [hc] at h4
      simp only [Option.some.injEq, Obj.cells.injEq] at h4
      exact h1 h4.2.1
    · obtain ⟨c2, t2, hc2, ht2⟩ := h.bk.ty h3
      rw [hc] at hc2
      simp only [Option.some.injEq, Obj.cells.injEq] at hc2
      exact h2 (hc2.2.1 ▸ ht2)
    · obtain ⟨_, c2, t2, fz2, hc2, ht2⟩ := ht k h3
      rw [hc] at hc2
      simp only [Option.some.injEq, Obj.cells.injEq] at hc2
      apply h2
      rw [hc2.2.1]
      unfold bkTy
      rcases ht2 with rfl | rfl <;> decide
  refine ⟨⟨hb, ?_, ?_, h.apart, h.lo, h.loH, ?_, h.loE⟩, keeps_below hk hlo hB⟩
  · refine ownsRow_keepsB h.row hk (fun k hk => ?_)
    obtain ⟨c, hc⟩ := ownsRow_isRow h.row hk
    exact hty hc (by decide) (by unfold bkTy; decide)
  · intro e he
    refine (h.ears e he).turned hk (fun k hk => ?_)
    obtain ⟨c, ty, hc, h2⟩ := (h.ears e he).ty hk
    refine hty hc ?_ (earTy_bk h2)
    unfold earTy at h2
    rcases h2 with rfl | rfl | rfl <;> decide
  · intro k hk
    rcases hv k hk with h1 | h1 | h1
    · exact h.loB k h1
    · exact (ht k h1).1
    · omega

theorem founds_eql_none (w : World) : (binOp .eql 63 (.slice none 0 0) (.slice none 0 0)).run Tryz.prog w = .ok (.bool true) w := by kernel_rfl
theorem founds_eql_some (w : World) (a : Addr) (n c : Nat) : (binOp .eql 63 (.slice (some a) n c) (.slice none 0 0)).run Tryz.prog w = .ok (.bool false) w := by kernel_rfl

/-- What Feed tells, seen from the book. -/
theorem told_new {w2 : World} {B0 : Nat} {v : Value} {t : Told} {b : Bk} (hT : ToldAt w2 B0 v t) (hb : ∀ k, b.blk k → k < B0) :
    ToldAt w2 0 v t ∧ (∀ x ∈ t, ∀ a, x.2.1 = some a → a.block < w2.heap.size ∧ ¬ b.blk a.block) ∧ (∀ k, v.ownBlock = some k → ¬ b.blk k) ∧ (∀ k, toldBlk v t k → B0 ≤ k ∧ ∃ c ty fz, w2.heap[k]? = some (.cells c ty fz) ∧ (ty = 65 ∨ ty = 5)) := by
  refine ⟨⟨ownsRow_mono hT.1 (Nat.zero_le _), fun x hx => ownsRow_mono (hT.2 x hx) (Nat.zero_le _)⟩, ?_, ?_, ?_⟩
  · intro x hx a ha
    obtain ⟨h1, h2⟩ := bytes_lt (hT.2 x hx) a ha
    exact ⟨h2, fun hq => by have := hb _ hq; omega⟩
  · intro k hk hq
    have h1 := (hT.1.lt k hk).1
    have := hb _ hq
    omega
  · rintro k (hk | ⟨x, hx, a, ha, rfl⟩)
    · obtain ⟨c, hc⟩ := ownsRow_isRow hT.1 hk
      exact ⟨(hT.1.lt k hk).1, c, _, _, hc, .inl rfl⟩
    · obtain ⟨h1, h2⟩ := bytes_lt (hT.2 x hx) a ha
      have hr := hT.2 x hx
      obtain ⟨f, p, cp⟩ := x
      simp only at ha
      subst ha
      obtain ⟨c, hc⟩ := ownsRow_isRow hr (k := a.block) rfl
      exact ⟨h1, c, _, _, hc, .inr rfl⟩

set_option maxHeartbeats 8000000 in
set_option maxRecDepth 1000000 in
theorem feeds_bad {B wb M i : Nat} {ss : Value} {x : Lw} {w : World} {s : ByteArray} (h : LwAt B w wb ss x) (hsm : x.small M) (hM : M + s.size ≤ 200000000000) (hB : B ≤ w.heap.size) (hi : i < x.es.length) (hbt : ¬ BitText s) :
    Calls Tryz.prog 31 #[.pointer (some ⟨wb, 0, none⟩), earV x.es[i], .string s] w fun e w' => e = .returned (.bool true) ∧ Lfs x B wb ss (M + s.size + 1) w w' := by
  have HF := hide fun V => feed_bad x.es[i].hb s V hbt (by omega)
  have HR := hide fun V => refFeed_bad x.es[i].rb s V hbt (by omega)
  have HK : Hid (∀ V, Below w.heap.size w V → Calls Tryz.prog 70 #[.pointer (some ⟨wb, 2, none⟩), .slice none 0 0] V fun e w' => e = .returned (.tuple #[]) ∧ Lfs x B wb ss (M + s.size + 1) w w') := by
    intro V hV
    have h2 := h.later hV
    have hz := hV.size
    refine (keepsFounds_bk (t := []) h2.bk ⟨World.ownsRow_nil _ _ _ _, fun x hx => by simp at hx⟩ List.Pairwise.nil (fun x hx => by simp at hx) (fun k hk => by cases hk) (by have := hsm.eb; simp; omega) (fun x hx => by simp at hx) (by have := hsm.ef; omega) (by simp)).mono ?_
    rintro e w' ⟨rfl, b', k1, k2, k3, k4, k5, k6, k7⟩
    obtain ⟨q1, q2⟩ := feeds_end h2 k1 k6 (fun k hk => by rcases hk with hk | ⟨x, hx, _⟩; cases hk; simp at hx) k7 (by omega)
    refine ⟨rfl, { x with b := b' }, q1, ⟨by have := hsm.es; show x.es.length ≤ _; omega, ?_, ?_, ?_, ?_, fun e he => by have := hsm.ears e he; omega⟩, (hV.mono hB).trans q2, (Keeps.of hV).trans (k6.mono (fun k hk => ?_)), rfl⟩
    · show b'.eb.length ≤ _
      have := hsm.eb
      simp at k2
      omega
    · show b'.ef.length ≤ _
      have := hsm.ef
      omega
    · show b'.el.length ≤ _
      rw [k4]
      have := hsm.el
      omega
    · show b'.ei.length ≤ _
      rw [k5]
      have := hsm.ei
      omega
    · rcases hk with hk | hk | hk | ⟨y, hy, _⟩
      · exact .inl hk
      · exact .inr (.inl hk)
      · cases hk
      · simp at hy
  unfold earV
  generalize x.es[i].hb = hb at *
  generalize x.es[i].rb = rb at *
  have hA0 := alloc1_a w (.cells #[.pointer (some ⟨hb, 0, none⟩), .pointer (some ⟨rb, 0, none⟩)] 51)
  have hbA := (Below.refl w.heap.size w).alloc (Nat.le_refl _) (.cells #[.pointer (some ⟨hb, 0, none⟩), .pointer (some ⟨rb, 0, none⟩)] 51)
  have hzA := alloc1_s w (.cells #[.pointer (some ⟨hb, 0, none⟩), .pointer (some ⟨rb, 0, none⟩)] 51)
  have hnn := founds_eql_none
  clear h hsm
  go_enter Tryz.func31, Tryz.ntmps31
  go_upto_region 1 with fail
  generalize hWA : w.alloc (.cells #[.pointer (some ⟨hb, 0, none⟩), .pointer (some ⟨rb, 0, none⟩)] 51) = WA at *
  clear hWA
  generalize hnB : w.heap.size = nB at *
  have c0 : WA.cell? ⟨nB, 0, none⟩ = some (.pointer (some ⟨hb, 0, none⟩)) := by rw [Lib.cell_of_heap hA0]; rfl
  have KF := hide (unhide HF WA)
  clear HF
  go_wp2_with fail
  refine (unhide KF).mono ?_
  rintro e w1 ⟨rfl, hb1⟩
  have hA1 := (hb1.block nB (by omega)).trans hA0
  have c1 : w1.cell? ⟨nB, 1, none⟩ = some (.pointer (some ⟨rb, 0, none⟩)) := by rw [Lib.cell_of_heap hA1]; rfl
  have KR := hide (unhide HR w1)
  clear HR KF c0 hA0 hA1
  go_wp2_with fail
  refine (unhide KR).mono ?_
  rintro e w2 ⟨rfl, rfl⟩
  have hb2 : Below nB w w2 := hbA.trans (hb1.mono (by omega))
  have KK := hide (unhide HK w2 hb2)
  have hn2 := hnn w2
  clear HK KR hb2 hbA hb1 c1 hnn
  go_wp2
  go_loopw [11, 12] (fun a b wr => a = .bool true ∧ b = .int .i64 0 ∧ wr = w2) (fun _ _ _ => 0)
  case atStart => exact ⟨rfl, rfl, rfl⟩
  case round =>
    obtain ⟨rfl, rfl, rfl⟩ := hrel
    go_wp2_with fail
    refine (unhide KK).mono ?_
    rintro e w3 ⟨rfl, hL⟩
    have HL := hide hL
    clear hL KK
    go_wp2
    go_ret
    exact ⟨rfl, unhide HL⟩
end Go.Proofs.YtkalonhalhdlaaaGreatDoor

/-
  What one call of the law's feeds does: a text of noughts and ones.
-/
namespace Go.Proofs.YtkalonhalhdlaaaGreatDoor
open Go.RowKit

theorem feeds_keep {B B0 wb M n : Nat} {ss v : Value} {t : Told} {x : Lw} {wr : World} (h : LwAt B wr wb ss x) (he : x.es.length ≤ M) (heb : x.b.eb.length ≤ 4 * M) (hef : x.b.ef.length ≤ 4 * M) (hel : x.b.el.length ≤ 4 * M) (hei : x.b.ei.length ≤ 4 * M) (hears : ∀ e ∈ x.es, e.cnt ≤ M + n ∧ e.s.has.length ≤ M + n)
    (hT : ToldAt wr B0 v t) (hlt : ∀ k, x.b.blk k → k < B0) (hA : Apart t) (htl : t.length ≤ n) (hby : ∀ x ∈ t, x.1.2.length ≤ 66) (hM : M + n ≤ 200000000000) (hB : B ≤ B0) (hBw : B ≤ wr.heap.size) :
    Calls Tryz.prog 70 #[.pointer (some ⟨wb, 2, none⟩), v] wr fun e w' => e = .returned (.tuple #[]) ∧ ∃ x', LwAt B w' wb ss x' ∧ x'.small (M + n + 1) ∧ Below B wr w' ∧ Keeps (fun k => k = wb ∨ x.b.blk k ∨ B0 ≤ k) wr w' ∧ x'.hs = x.hs := by
  obtain ⟨q1, q2, q3, q4⟩ := told_new hT hlt
  refine (keepsFounds_bk h.bk q1 hA q2 q3 (by omega) (fun x hx => by have := hby x hx; omega) (by omega) (by omega)).mono ?_
  rintro e w' ⟨rfl, b', k1, k2, k3, k4, k5, k6, k7⟩
  obtain ⟨r1, r2⟩ := feeds_end h k1 k6 (fun k hk => ⟨Nat.le_trans hB (q4 k hk).1, (q4 k hk).2⟩) k7 hBw
  refine ⟨rfl, { x with b := b' }, r1, ⟨by show x.es.length ≤ _; omega, ?_, ?_, ?_, ?_, fun e he => by have := hears e he; omega⟩, r2, k6.mono (fun k hk => ?_), rfl⟩
  · show b'.eb.length ≤ _
    omega
  · show b'.ef.length ≤ _
    omega
  · show b'.el.length ≤ _
    rw [k4]
    omega
  · show b'.ei.length ≤ _
    rw [k5]
    omega
  · rcases hk with hk | hk | hk
    · exact .inl hk
    · exact .inr (.inl hk)
    · exact .inr (.inr (q4 k hk).1)

/-- What the document's hunter may turn. -/
def earX (e : Ear) (k : Nat) : Prop := k = e.rb ∨ e.v.ownBlock = some k
theorem feeds_both {B wb i cnt : Nat} {ss v vo v' : Value} {t t2 : Told} {x : Lw} {V w1 w2 : World} {bs : List Bool} (h : LwAt B V wb ss x) (hi : i < x.es.length) (hB : B ≤ V.heap.size)
    (f1 : t.map Prod.fst = (feedH x.es[i].h bs).2) (f2 : ToldAt w1 V.heap.size v t) (f4 : HunterAt w1 x.es[i].hb (feedH x.es[i].h bs).1) (f5 : Keeps (· = x.es[i].hb) V w1)
    (r1 : t2.map Prod.fst = (feedI x.es[i].s bs).2) (r2 : RInv w1 (earX x.es[i]) x.es[i].rb w2 vo (feedI x.es[i].s bs).1.on cnt (feedI x.es[i].s bs).1.has v' t2) (r3 : (feedI x.es[i].s bs).1.c = min cnt 7) (r4 : IOk (feedI x.es[i].s bs).1) :
    ∃ e' : Ear, LwAt B w2 wb ss { x with es := x.es.set i e' } ∧ Below B V w2 ∧ e'.cnt = cnt ∧ e'.s.has = (feedI x.es[i].s bs).1.has ∧ ToldAt w2 V.heap.size v t ∧ ToldAt w2 V.heap.size vo t2 ∧ t2.map Prod.fst = t.map Prod.fst ∧ Keeps x.es[i].blk V w2 := by
  have hmem : x.es[i] ∈ x.es := List.getElem_mem hi
  have hE := h.ears _ hmem
  have hsf := sim_feed _ _ bs hE.sim
  have hX1 : ∀ k, earX x.es[i] k → k < V.heap.size := fun k hk => hE.lt (.inr hk)
  have hnX : ¬ earX x.es[i] x.es[i].hb := by
    rintro (e | e)
    · have h1 := hE.hunter
      have h2 := hE.head
      unfold HunterAt at h1
      unfold RHead at h2
      rw [← e, h1] at h2
      simp at h2
    · obtain ⟨c, hc⟩ := ownsRow_isRow hE.row e
      have h1 := hE.hunter
      unfold HunterAt at h1
      rw [h1] at hc
      simp at hc
  have hk : Keeps x.es[i].blk V w2 := (f5.mono (fun k hk => .inl hk)).trans (r2.keeps.mono (fun k hk => .inr hk))
  have hT : ToldAt w2 V.heap.size v t := by
    refine ⟨ownsRow_keepsB f2.1 r2.keeps (fun k hk hx => ?_), fun y hy => ownsRow_keepsB (f2.2 y hy) r2.keeps (fun k hk hx => ?_)⟩
    · have := (f2.1.lt k hk).1
      have := hX1 k hx
      omega
    · have := (World.ownsRow.lt (f2.2 y hy) k hk).1
      have := hX1 k hx
      omega
  have he' : EarAt w2 ⟨x.es[i].hb, (feedH x.es[i].h bs).1, x.es[i].rb, (feedI x.es[i].s bs).1, cnt, v'⟩ :=
    ⟨f4.keeps r2.keeps hnX, feedH_ok _ _ hE.ok, r2.head, r2.row, r3, r4, hsf.1⟩
  obtain ⟨m1, m2⟩ := feeds_mid h hi hk he' rfl rfl (fun k hk => by
    rcases hk with hk | hk | hk
    · exact .inl (.inl hk)
    · exact .inl (.inr (.inl hk))
    · rcases r2.mine k hk with h1 | h1
      · exact .inl (.inr h1)
      · exact .inr (Nat.le_trans f5.size h1)) hB
  exact ⟨_, m1, m2, rfl, rfl, hT, ⟨ownsRow_mono r2.told.1 f5.size, fun y hy => ownsRow_mono (r2.told.2 y hy) f5.size⟩, by rw [r1, f1, hsf.2], hk⟩

theorem bytes_conv {w : World} {base : Nat} {f : Nat × List UInt8} {p : Option Addr} {cap : Nat} (h : Bytes w base f p cap) (N : Nat) :
    (convert 28 9 (.slice p f.2.length cap)).run Tryz.prog (w.drewN N) = .ok (.string ⟨f.2.toArray⟩) (w.drewN N) := by
  have h1 : SrcIs (w.drewN N) p f.2 := by
    rcases h.2 with ⟨hv, h0⟩ | ⟨g, cp, cur, hv, _, hg, _, _, _, ht⟩
    · simp only [Value.slice.injEq] at hv
      exact .inl ⟨hv.1, List.length_eq_zero_iff.1 h0⟩
    · simp only [Value.slice.injEq] at hv
      refine .inr ⟨g, 0, hv.1, (Array.getElem?_eq_some_iff.1 hg).1, ?_⟩
      intro i hi
      have hg2 : (w.drewN N).heap[g]? = some (.cells cur 5 (0, 0)) := hg
      rw [Lib.cell_of_heap hg2]
      have h1 := congrArg (fun l => l[i]?) ht
      simp only [Nat.mul_one, List.getElem?_take_of_lt hi] at h1
      rw [Nat.zero_add]
      have : cur[i]? = cur.toList[i]? := by simp
      rw [this, h1]
      simp [Lib.byteCells, hi]
  exact h1.conv cap
end Go.Proofs.YtkalonhalhdlaaaGreatDoor

/-
  What one call of the law's feeds does: whatever the text.
-/
namespace Go.Proofs.YtkalonhalhdlaaaGreatDoor
open Go.RowKit

theorem feeds_after {B wb M i cnt : Nat} {ss v vo v' : Value} {t t2 : Told} {x : Lw} {w V w1 w2 : World} {bs : List Bool} (h : LwAt B w wb ss x) (hsm : x.small M) (hM : M + bs.length ≤ 200000000000) (hi : i < x.es.length) (hB : B ≤ w.heap.size) (hV : Below w.heap.size w V)
    (f1 : t.map Prod.fst = (feedH x.es[i].h bs).2) (f2 : ToldAt w1 V.heap.size v t) (fA : Apart t) (f4 : HunterAt w1 x.es[i].hb (feedH x.es[i].h bs).1) (f5 : Keeps (· = x.es[i].hb) V w1)
    (r1 : t2.map Prod.fst = (feedI x.es[i].s bs).2) (r2 : RInv w1 (earX x.es[i]) x.es[i].rb w2 vo (feedI x.es[i].s bs).1.on cnt (feedI x.es[i].s bs).1.has v' t2) (r3 : (feedI x.es[i].s bs).1.c = min cnt 7) (r4 : IOk (feedI x.es[i].s bs).1)
    (rc : cnt ≤ x.es[i].cnt + bs.length) (rh : (feedI x.es[i].s bs).1.has.length ≤ x.es[i].s.has.length + bs.length) :
    ToldAt w2 V.heap.size v t ∧ ToldAt w2 V.heap.size vo t2 ∧ t2.map Prod.fst = t.map Prod.fst ∧ ∀ wr, Below w2.heap.size w2 wr →
      Calls Tryz.prog 70 #[.pointer (some ⟨wb, 2, none⟩), v] wr fun e w' => e = .returned (.tuple #[]) ∧ Lfs x B wb ss (M + bs.length + 1) w w' := by
  have hz := hV.size
  have hL := h.later hV
  have hmem : x.es[i] ∈ x.es := List.getElem_mem hi
  obtain ⟨e', m1, m2, m3, m4, m5, m6, m7, m8⟩ := feeds_both hL hi (by omega) f1 f2 f4 f5 r1 r2 r3 r4
  refine ⟨m5, m6, m7, fun wr hwr => ?_⟩
  have hk : Keeps (fun _ => False) w2 wr := Keeps.of hwr
  have hT : ToldAt wr V.heap.size v t := ⟨ownsRow_keepsB m5.1 hk (fun _ _ => id), fun y hy => ownsRow_keepsB (m5.2 y hy) hk (fun _ _ => id)⟩
  have hlen : t.length = (feedH x.es[i].h bs).2.length := by rw [← f1, List.length_map]
  have hz2 := m2.size
  have hz3 := hwr.size
  refine (feeds_keep (n := bs.length) (M := M) (m1.later hwr) (by show (x.es.set i e').length ≤ _; rw [List.length_set]; exact hsm.es) hsm.eb hsm.ef hsm.el hsm.ei ?_ hT (fun k hk => hL.bk.lt hk) fA (by rw [hlen]; exact feedH_length _ _) ?_ hM (by omega) (by omega)).mono ?_
  · intro e he
    rcases List.mem_or_eq_of_mem_set he with he | rfl
    · have := hsm.ears e he
      omega
    · have := hsm.ears _ hmem
      rw [m3, m4]
      omega
  · intro y hy
    refine feedH_bytes _ bs (h.ears _ hmem).ok y.1 ?_
    rw [← f1]
    exact List.mem_map_of_mem hy
  · rintro e w' ⟨rfl, x', k1, k2, k3, k4, k5⟩
    refine ⟨rfl, x', k1, k2, (((hV.mono hB).trans m2).trans (hwr.mono (by omega))).trans k3, ?_, k5⟩
    have z1 := m8.size
    refine ⟨k4.os.trans (hwr.os.trans (m8.os.trans hV.os)), k4.tape.trans (hwr.tape.trans (m8.tape.trans hV.tape)), k4.output.trans (hwr.output.trans (m8.output.trans hV.output)), by have := k4.size; omega, fun k hk hx => ?_⟩
    rw [k4.block k (by omega) ?_, hwr.block k (by omega), m8.block k (by omega) (fun hq => hx (.inr (.inr ⟨_, hmem, hq⟩))), hV.block k hk]
    rintro (q | q | q)
    · exact hx (.inl q)
    · exact hx (.inr (.inl q))
    · omega

theorem told_eql {w : World} {base n : Nat} {p : Option Addr} {cp : Nat} {xs : List Value} (h : w.ownsRow base 65 2 (.slice p n cp) n xs) : ∃ bq : Bool, ∀ W : World, (binOp .eql 63 (.slice p n cp) (.slice none 0 0)).run Tryz.prog W = .ok (.bool bq) W := by
  rcases h.2 with ⟨hv, h0⟩ | ⟨g, cap, cur, hv, _⟩
  · rw [hv]
    exact ⟨true, founds_eql_none⟩
  · rw [hv]
    exact ⟨false, fun W => founds_eql_some W _ _ _⟩

set_option maxHeartbeats 8000000 in
set_option maxRecDepth 1000000 in
theorem feeds_txt {B wb M i : Nat} {ss : Value} {x : Lw} {w : World} {bs : List Bool} (h : LwAt B w wb ss x) (hsm : x.small M) (hM : M + bs.length ≤ 200000000000) (hB : B ≤ w.heap.size) (hi : i < x.es.length) :
    Calls Tryz.prog 31 #[.pointer (some ⟨wb, 0, none⟩), earV x.es[i], .string ⟨(txt bs).toArray⟩] w fun e w' => e = .returned (.bool true) ∧ Lfs x B wb ss (M + bs.length + 1) w w' := by
  have hmem : x.es[i] ∈ x.es := List.getElem_mem hi
  have hE := h.ears _ hmem
  have hsE := hsm.ears _ hmem
  have hbl : x.es[i].hb < w.heap.size := hE.hunter.lt
  have HF := hide fun (V : World) (hV : Below w.heap.size w V) => feed_apart x.es[i].hb x.es[i].h bs V (hE.later hV).hunter hE.ok (by omega)
  have HR := hide fun (V w1 : World) (hV : Below w.heap.size w V) (hk : Keeps (· = x.es[i].hb) V w1) => refFeed_txt x.es[i].rb (earX x.es[i]) (.inl rfl) x.es[i].s x.es[i].cnt x.es[i].v bs w1
    ((hE.later hV).head.keeps hk (fun e => by
      have h1 := hE.hunter
      have h2 := hE.head
      unfold HunterAt at h1
      unfold RHead at h2
      rw [e, h1] at h2
      simp at h2)) (ownsRow_keepsB (hE.later hV).row hk (fun k hk e => by
      obtain ⟨c, hc⟩ := ownsRow_isRow hE.row hk
      have h1 := hE.hunter
      unfold HunterAt at h1
      rw [e, h1] at hc
      simp at hc)) (fun k hk => .inl (.inr hk)) hE.c hE.iok (by omega) (by omega) (by omega)
  have HB := hide fun (V w1 w2 : World) (v vo v' : Value) (t t2 : Told) (cnt : Nat) => feeds_after (V := V) (w1 := w1) (w2 := w2) (v := v) (vo := vo) (v' := v') (t := t) (t2 := t2) (cnt := cnt) (bs := bs) h hsm hM hi hB
  unfold earV
  clear h hsm hE hsE hmem
  generalize x.es[i].hb = hb at *
  generalize x.es[i].rb = rb at *
  generalize (⟨(txt bs).toArray⟩ : ByteArray) = s at *
  have hA0 := alloc1_a w (.cells #[.pointer (some ⟨hb, 0, none⟩), .pointer (some ⟨rb, 0, none⟩)] 51)
  have hbA := (Below.refl w.heap.size w).alloc (Nat.le_refl _) (.cells #[.pointer (some ⟨hb, 0, none⟩), .pointer (some ⟨rb, 0, none⟩)] 51)
  have hzA := alloc1_s w (.cells #[.pointer (some ⟨hb, 0, none⟩), .pointer (some ⟨rb, 0, none⟩)] 51)
  go_enter Tryz.func31, Tryz.ntmps31
  go_upto_region 1 with fail
  generalize hWA : w.alloc (.cells #[.pointer (some ⟨hb, 0, none⟩), .pointer (some ⟨rb, 0, none⟩)] 51) = WA at *
  clear hWA
  generalize hnB : w.heap.size = nB at *
  have c0 : WA.cell? ⟨nB, 0, none⟩ = some (.pointer (some ⟨hb, 0, none⟩)) := by rw [Lib.cell_of_heap hA0]; rfl
  have KF := hide (unhide HF WA hbA)
  clear HF
  go_wp2_with fail
  refine (unhide KF).mono ?_
  rintro e w1 ⟨v, t, rfl, f1, f2, fA, f4, f5⟩
  have hA1 := (f5.block nB (by omega) (by omega)).trans hA0
  have c1 : w1.cell? ⟨nB, 1, none⟩ = some (.pointer (some ⟨rb, 0, none⟩)) := by rw [Lib.cell_of_heap hA1]; rfl
  have KR := hide (unhide HR WA w1 hbA f5)
  have HF1 := hide (And.intro f1 (And.intro f2 (And.intro fA (And.intro f4 f5))))
  clear HR KF c0 hA0 hA1 f1 f2 fA f4 f5
  go_wp2_with fail
  refine (unhide KR).mono ?_
  rintro e w2 ⟨vo, v', t2, cnt, rfl, r1, r2, r3, r4, rc, rh⟩
  obtain ⟨f1, f2, fA, f4, f5⟩ := unhide HF1
  obtain ⟨T1, T2, hmap, hK⟩ := unhide HB WA w1 w2 v vo v' t t2 cnt hbA f1 f2 fA f4 f5 r1 r2 r3 r4 rc rh
  have hlen : t2.length = t.length := by have := congrArg List.length hmap; simpa using this
  have hbd : t.length ≤ 200000000000 := by
    have e1 : t.length = (feedH x.es[i].h bs).2.length := by rw [← f1, List.length_map]
    have := feedH_length x.es[i].h bs
    omega
  have hme : ∀ k (h1 : k < t.length) (h2 : k < t2.length), t2[k].1 = t[k].1 := by
    intro k h1 h2
    have := congrArg (fun l => l[k]?) hmap
    simpa [h1, h2] using this
  obtain ⟨p, cp, rfl, hpg⟩ := ownsRow_slice T1.1
  obtain ⟨q, cq, rfl, hqg⟩ := ownsRow_slice T2.1
  obtain ⟨bq, hnn⟩ := told_eql T1.1
  have hn2 := hnn w2
  have HK := hide hK
  have HT1 := hide T1
  have HT2 := hide T2
  have HME := hide hme
  clear HB HF1 f1 f2 fA f4 f5 r1 r2 r3 r4 rc rh T1 T2 hK hnn KR c1 hme hmap hbA
  have hlI : ((t2.length : Nat) : Int) = (t.length : Int) := by omega
  rw [hlen] at hqg ⊢
  cases bq
  all_goals
    go_wp2
    go_loopw [11, 12] (fun a b wr => a = .bool true ∧ (∃ k : Nat, k ≤ t.length ∧ b = .int .i64 k) ∧ Below w2.heap.size w2 wr) (fun _ b _ => t.length - (intOf b).toNat)
    case atStart => exact ⟨rfl, ⟨0, Nat.zero_le _, rfl⟩, Below.refl _ _⟩
    case round =>
      obtain ⟨rfl, ⟨k, hk, rfl⟩, hwr⟩ := hrel
      by_cases hlt : k < t.length
      · obtain ⟨g, rfl⟩ := hpg (by omega)
        obtain ⟨g2, rfl⟩ := hqg (by omega)
        have hlt2 : k < t2.length := by omega
        have hkp : Keeps (fun _ => False) w2 wr := Keeps.of hwr
        have T1 : ToldAt wr WA.heap.size (.slice (some ⟨g, 0, none⟩) t.length cp) t := ⟨ownsRow_keepsB (unhide HT1).1 hkp (fun _ _ => id), fun y hy => ownsRow_keepsB ((unhide HT1).2 y hy) hkp (fun _ _ => id)⟩
        have T2 : ToldAt wr WA.heap.size (.slice (some ⟨g2, 0, none⟩) t2.length cq) t2 := ⟨ownsRow_keepsB (unhide HT2).1 hkp (fun _ _ => id), fun y hy => ownsRow_keepsB ((unhide HT2).2 y hy) hkp (fun _ _ => id)⟩
        have e1 := told_get t k hlt
        have e2 := told_get t2 k hlt2
        have hq := unhide HME k hlt hlt2
        have a0 := World.ownsRow.cells T1.1 (g := g) rfl (k * 2) _ e1.1
        have a1 := World.ownsRow.cells T1.1 (g := g) rfl (k * 2 + 1) _ e1.2
        have b0 := World.ownsRow.cells T2.1 (g := g2) rfl (k * 2) _ e2.1
        have b1 := World.ownsRow.cells T2.1 (g := g2) rfl (k * 2 + 1) _ e2.2
        rw [Go.WideShapes.add_plain, Nat.zero_add] at a0 a1 b0 b1
        have v1 := bytes_conv (T1.2 _ (List.getElem_mem hlt))
        have v2 := bytes_conv (T2.2 _ (List.getElem_mem hlt2))
        have HW := hide hwr
        clear e1 e2 T1 T2 hkp hwr
        generalize t[k] = y at *
        generalize t2[k] = y2 at *
        obtain ⟨f, pa, ca⟩ := y
        obtain ⟨f2, pb, cb⟩ := y2
        simp only at hq
        subst hq
        obtain ⟨kd, byt⟩ := f2
        simp only at a0 a1 b0 b1 v1 v2
        have hltI : (k : Int) < (t.length : Int) := by omega
        go_wp2_with fail
        go_quiet (fail)
        go_wp2
        go_roundw
        case rel => exact ⟨rfl, ⟨k + 1, hlt, by go_num⟩, below_drewN (unhide HW) _⟩
        case measure => simp [intOf]; omega
      · have hkt : k = t.length := by omega
        subst hkt
        have KK := hide (unhide HK wr hwr)
        clear HK hwr
        go_wp2_with fail
        refine (unhide KK).mono ?_
        rintro e w3 ⟨rfl, hL⟩
        have HL := hide hL
        clear hL KK
        go_wp2
        go_ret
        exact ⟨rfl, unhide HL⟩
/-- Feed, whatever the text. -/
theorem feeds_any {B wb M i : Nat} {ss : Value} {x : Lw} {w : World} {s : ByteArray} (h : LwAt B w wb ss x) (hsm : x.small M) (hM : M + s.size ≤ 200000000000) (hB : B ≤ w.heap.size) (hi : i < x.es.length) :
    Calls Tryz.prog 31 #[.pointer (some ⟨wb, 0, none⟩), earV x.es[i], .string s] w fun e w' => e = .returned (.bool true) ∧ Lfs x B wb ss (M + s.size + 1) w w' := by
  by_cases hbt : BitText s
  · obtain ⟨bs, e, hl⟩ := bitText_txt s hbt
    rw [← hl] at hM ⊢
    rw [e]
    exact feeds_txt h hsm hM hB hi
  · exact feeds_bad h hsm hM hB hi hbt
end Go.Proofs.YtkalonhalhdlaaaGreatDoor
