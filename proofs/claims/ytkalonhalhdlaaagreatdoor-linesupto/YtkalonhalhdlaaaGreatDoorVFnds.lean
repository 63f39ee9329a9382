import Derived.Test.YtkalonhalhdlaaaGreatDoorVBook
import Derived.Test.YtkalonhalhdlaaaGreatDoorVLooks
import Derived.Test.YtkalonhalhdlaaaGreatDoorVHears
/-
  What one call of the book's keepsFounds does.
-/
namespace Go.Proofs.YtkalonhalhdlaaaGreatDoor
open Go.RowKit

theorem infoFounds : (Tryz.prog.info? 63).map (fun i => (i.zero, i.size, i.bytes)) = some (some (.slice none 0 0), 1, 24) := by kernel_rfl
/-- A block of what was told: the list's own, or one of its bytes'. -/
def toldBlk (v : Value) (t : Told) (k : Nat) : Prop := v.ownBlock = some k ∨ ∃ x ∈ t, ∃ a, x.2.1 = some a ∧ a.block = k
theorem Bytes.own {w : World} {base : Nat} {f : Nat × List UInt8} {p : Option Addr} {cap : Nat} (_h : Bytes w base f p cap) {k : Nat} (hk : (Value.slice p f.2.length cap).ownBlock = some k) : ∃ a, p = some a ∧ a.block = k := by
  cases p with
  | none => simp [Value.ownBlock] at hk
  | some a => exact ⟨a, rfl, by simpa [Value.ownBlock] using hk⟩

/-- Amid the loop over what was told: i lists of bytes are kept. -/
structure FMid (w : World) (wb : Nat) (hs ss v : Value) (b : Bk) (t : Told) (wr : World) (i : Nat) (c : Bk) : Prop where
  at_ : BkAt wr wb hs ss c
  len : c.eb.length = b.eb.length + 4 * i
  fs : c.fs = b.fs
  ls : c.ls = b.ls
  is : c.is = b.is
  ef : c.ef = b.ef
  el : c.el = b.el
  ei : c.ei = b.ei
  mg : c.mg = b.mg
  keeps : Keeps (fun k => k = wb ∨ b.blk k ∨ toldBlk v t k) w wr
  blk : ∀ k, c.blk k → b.blk k ∨ (∃ x ∈ t.take i, ∃ a, x.2.1 = some a ∧ a.block = k) ∨ w.heap.size ≤ k
  row : wr.ownsRow 0 65 2 v t.length (toldCells t)
  rest : ∀ x ∈ t.drop i, wr.ownsRow 0 5 1 (.slice x.2.1 x.1.2.length x.2.2) x.1.2.length (Lib.byteCells x.1.2)

theorem FMid.step {w : World} {wb : Nat} {hs ss v : Value} {b : Bk} {t : Told} {wr : World} {i : Nat} {c : Bk} (h : FMid w wb hs ss v b t wr i c) (hA : Apart t) (hlt : ∀ x ∈ t, ∀ a, x.2.1 = some a → a.block < w.heap.size ∧ ¬ b.blk a.block) (hi : i < t.length)
    (hN : b.eb.length + 4 * t.length ≤ 1099511627776) (hn : ∀ x ∈ t, x.1.2.length ≤ 1048576) :
    Calls Tryz.prog 34 #[.pointer (some ⟨wb, 2, none⟩), .slice t[i].2.1 t[i].1.2.length t[i].2.2] wr fun e w' => e = .returned (.tuple #[]) ∧ ∃ c', FMid w wb hs ss v b t w' (i + 1) c' := by
  have hd : t.drop i = t[i] :: t.drop (i + 1) := List.drop_eq_getElem_cons hi
  have hr0 := h.rest t[i] (by rw [hd]; exact List.mem_cons_self)
  have hmem : t[i] ∈ t := List.getElem_mem hi
  have hown : ∀ {x : (Nat × List UInt8) × (Option Addr × Nat)} {k : Nat}, (Value.slice x.2.1 x.1.2.length x.2.2).ownBlock = some k → ∃ a, x.2.1 = some a ∧ a.block = k := by
    intro x k hk
    obtain ⟨f, p, cp⟩ := x
    cases p with
    | none => simp [Value.ownBlock] at hk
    | some a => exact ⟨a, rfl, by simpa [Value.ownBlock] using hk⟩
  have hap : ∀ x ∈ t.take i, ∀ a a2, x.2.1 = some a → t[i].2.1 = some a2 → a.block ≠ a2.block := by
    intro x hx a a2 e1 e2
    have hsplit : t = t.take i ++ t[i] :: t.drop (i + 1) := by rw [← hd, List.take_append_drop]
    have h2 : (t.take i ++ t[i] :: t.drop (i + 1)).Pairwise fun x y => ∀ a b, x.2.1 = some a → y.2.1 = some b → a.block ≠ b.block := by rw [← hsplit]; exact hA
    exact (List.pairwise_append.1 h2).2.2 x hx t[i] List.mem_cons_self a a2 e1 e2
  have hap2 : ∀ x ∈ t.drop (i + 1), ∀ a a2, t[i].2.1 = some a → x.2.1 = some a2 → a.block ≠ a2.block := by
    intro x hx a a2 e1 e2
    have h2 : (t[i] :: t.drop (i + 1)).Pairwise fun x y => ∀ a b, x.2.1 = some a → y.2.1 = some b → a.block ≠ b.block := by rw [← hd]; exact List.Pairwise.drop hA
    exact (List.pairwise_cons.1 h2).1 x hx a a2 e1 e2
  have hvb : ∀ k, (Value.slice t[i].2.1 t[i].1.2.length t[i].2.2).ownBlock = some k → ¬ c.blk k := by
    intro k hk hc
    obtain ⟨a, ha, rfl⟩ := hown hk
    obtain ⟨l1, l2⟩ := hlt _ hmem a ha
    rcases h.blk _ hc with h1 | ⟨x, hx, a2, e2, e3⟩ | h1
    · exact l2 h1
    · exact hap x hx a2 a e2 ha e3
    · omega
  refine (keeps_bk h.at_ hr0 hvb (by have := h.len; omega) (hn _ hmem)).mono ?_
  rintro e w' ⟨rfl, c', k1, k2, k3, k4, k5, k6, k7, k8, k9, k10, k11⟩
  refine ⟨rfl, c', ⟨k1, by have := h.len; omega, k3.trans h.fs, k4.trans h.ls, k5.trans h.is, k6.trans h.ef, k7.trans h.el, k8.trans h.ei, k9.trans h.mg, ?_, ?_, ?_, ?_⟩⟩
  · refine ⟨k10.os.trans h.keeps.os, k10.tape.trans h.keeps.tape, k10.output.trans h.keeps.output, Nat.le_trans h.keeps.size k10.size, fun k hk hx => ?_⟩
    rw [k10.block k (Nat.lt_of_lt_of_le hk h.keeps.size) ?_]
    · exact h.keeps.block k hk hx
    · rintro (rfl | hb | hb)
      · exact hx (.inl rfl)
      · rcases h.blk k (.inl hb.symm) with h1 | ⟨x, hx2, a2, e2, e3⟩ | h1
        · exact hx (.inr (.inl h1))
        · exact hx (.inr (.inr (.inr ⟨x, List.mem_of_mem_take hx2, a2, e2, e3⟩)))
        · omega
      · obtain ⟨a, ha, rfl⟩ := hown hb.symm
        exact hx (.inr (.inr (.inr ⟨_, hmem, a, ha, rfl⟩)))
  · intro k hk
    rcases k11 k hk with h1 | h1 | h1
    · rcases h.blk k h1 with h2 | ⟨x, hx, a2, e2, e3⟩ | h2
      · exact .inl h2
      · exact .inr (.inl ⟨x, by rw [List.take_add_one]; exact List.mem_append_left _ hx, a2, e2, e3⟩)
      · exact .inr (.inr h2)
    · obtain ⟨a, ha, rfl⟩ := hown h1
      exact .inr (.inl ⟨t[i], by rw [List.take_add_one, List.getElem?_eq_getElem hi]; exact List.mem_append_right _ List.mem_cons_self, a, ha, rfl⟩)
    · exact .inr (.inr (Nat.le_trans h.keeps.size h1))
  · refine ownsRow_keepsB h.row k10 ?_
    rintro k hk (rfl | hb | hb)
    · obtain ⟨c2, hc2⟩ := ownsRow_isRow h.row hk
      have h3 := h.at_.head
      unfold WAt at h3
      rw [hc2] at h3
      simp at h3
    · obtain ⟨c2, hc2⟩ := ownsRow_isRow h.row hk
      obtain ⟨c3, hc3⟩ := ownsRow_isRow h.at_.rb hb.symm
      rw [hc2] at hc3
      simp at hc3
    · obtain ⟨c2, hc2⟩ := ownsRow_isRow h.row hk
      obtain ⟨c3, hc3⟩ := ownsRow_isRow hr0 hb.symm
      rw [hc2] at hc3
      simp at hc3
  · intro x hx
    have hx0 : x ∈ t.drop i := by rw [hd]; exact List.mem_cons_of_mem _ hx
    refine ownsRow_keepsB (h.rest x hx0) k10 ?_
    rintro k hk (rfl | hb | hb)
    · obtain ⟨c2, hc2⟩ := ownsRow_isRow (h.rest x hx0) hk
      have h3 := h.at_.head
      unfold WAt at h3
      rw [hc2] at h3
      simp at h3
    · obtain ⟨c2, hc2⟩ := ownsRow_isRow (h.rest x hx0) hk
      obtain ⟨c3, hc3⟩ := ownsRow_isRow h.at_.rb hb.symm
      rw [hc2] at hc3
      simp at hc3
    · obtain ⟨a, ha, rfl⟩ := hown hk
      obtain ⟨a2, ha2, e3⟩ := hown hb.symm
      exact hap2 x hx a2 a ha2 ha e3

theorem FMid.later {w : World} {wb : Nat} {hs ss v : Value} {b : Bk} {t : Told} {wr w' : World} {i : Nat} {c : Bk} (h : FMid w wb hs ss v b t wr i c) (hb : Below wr.heap.size wr w') : FMid w wb hs ss v b t w' i c :=
  ⟨h.at_.later hb, h.len, h.fs, h.ls, h.is, h.ef, h.el, h.ei, h.mg, h.keeps.trans (Keeps.of hb), h.blk, ownsRow_keepsB (X := fun _ => False) h.row (Keeps.of hb) (fun _ _ => id), fun x hx => ownsRow_keepsB (X := fun _ => False) (h.rest x hx) (Keeps.of hb) (fun _ _ => id)⟩

theorem reps_put2 (a b : Value) (xs : List Value) (k : Nat) (hk : k * 2 + 1 < xs.length) : ((reps [a, b] k ++ xs.drop (k * 2)).set (k * 2) a).set (k * 2 + 1) b = reps [a, b] (k + 1) ++ xs.drop ((k + 1) * 2) := by
  have hl : (reps [a, b] k).length = k * 2 := by rw [reps_length]; rfl
  rw [List.set_append_right _ _ (by omega), hl, Nat.sub_self, List.drop_eq_getElem_cons (by omega : k * 2 < xs.length), List.drop_eq_getElem_cons (by omega : k * 2 + 1 < xs.length), List.set_cons_zero, List.set_append_right _ _ (by omega), hl, show k * 2 + 1 - k * 2 = 0 + 1 by omega, List.set_cons_succ, List.set_cons_zero, reps_add, show (k + 1) * 2 = k * 2 + 1 + 1 by omega]
  simp [reps]
/-- One more of what was told is marked. -/
theorem found_step {wr : World} {g n cp k : Nat} {xs : List Value} {u y : Value} (hk : k < n)
    (hv : wr.ownsRow 0 65 2 (.slice (some ⟨g, 0, none⟩) n cp) n (reps [u, y] k ++ xs.drop (k * 2))) (hx : xs.length = n * 2) :
    (∃ x0, wr.cell? ⟨g, k * 2, none⟩ = some x0) ∧ (∃ x1, (wr.setCell ⟨g, k * 2, none⟩ u).cell? ⟨g, k * 2 + 1, none⟩ = some x1) ∧ (∀ i, wr.frozen? ⟨g, i, none⟩ = false) ∧ (∀ i, (wr.setCell ⟨g, k * 2, none⟩ u).frozen? ⟨g, i, none⟩ = false) ∧
      ((wr.setCell ⟨g, k * 2, none⟩ u).setCell ⟨g, k * 2 + 1, none⟩ y).ownsRow 0 65 2 (.slice (some ⟨g, 0, none⟩) n cp) n (reps [u, y] (k + 1) ++ xs.drop ((k + 1) * 2)) ∧ Keeps (· = g) wr ((wr.setCell ⟨g, k * 2, none⟩ u).setCell ⟨g, k * 2 + 1, none⟩ y) := by
  have h1 := (hv.stored (k * 2) u).1
  have h2 := (h1.stored (k * 2 + 1) y).1
  rw [reps_put2 u y xs k (by omega)] at h2
  have hl : (reps [u, y] k ++ xs.drop (k * 2)).length = n * 2 := hv.1
  obtain ⟨x0, e0⟩ : ∃ x0, (reps [u, y] k ++ xs.drop (k * 2))[k * 2]? = some x0 := ⟨_, List.getElem?_eq_getElem (by omega)⟩
  obtain ⟨x1, e1⟩ : ∃ x1, ((reps [u, y] k ++ xs.drop (k * 2)).set (k * 2) u)[k * 2 + 1]? = some x1 := ⟨_, List.getElem?_eq_getElem (by rw [List.length_set]; omega)⟩
  have c0 := World.ownsRow.cells hv (g := g) rfl (k * 2) x0 e0
  have c1 := World.ownsRow.cells h1 (g := g) rfl (k * 2 + 1) x1 e1
  rw [Go.WideShapes.add_plain, Nat.zero_add] at c0 c1
  exact ⟨⟨x0, c0⟩, ⟨x1, c1⟩, fun i => hv.frozenAt i, fun i => h1.frozenAt i, h2, ((Keeps.refl _ wr).setB _ _).setB _ _⟩

theorem newsL (w : World) (l : List Value) (e : TypeId) : ∀ j x, l[j]? = some x → (w.alloc (.cells l.toArray e)).cell? ((⟨w.heap.size, 0, none⟩ : Addr).add j) = some x := by
  intro j x hj
  rw [Go.WideShapes.add_plain, Lib.cell_of_heap (alloc1_a w _), Nat.zero_add, List.getElem?_toArray]
  exact hj
theorem box_grown {W w2 : World} {o O : Obj} {r : Option Nat} {q : Nat} (hb : W.heap[q]? = some O) (hg : (W.alloc o).grownBy w2 r) (hne : ¬ some q = r) : w2.heap[q]? = some O := by
  have hl := (Array.getElem?_eq_some_iff.1 hb).1
  rw [(Keeps.grown hg).block q (by rw [alloc1_s]; omega) hne, ((Below.refl W.heap.size W).alloc (Nat.le_refl _) o).block q hl]
  exact hb
theorem told_get (t : Told) (i : Nat) (hi : i < t.length) : (toldCells t)[i * 2]? = some (.int .i64 t[i].1.1) ∧ (toldCells t)[i * 2 + 1]? = some (.slice t[i].2.1 t[i].1.2.length t[i].2.2) := by
  induction t generalizing i with
  | nil => simp at hi
  | cons x r ih =>
    cases i with
    | zero => simp [toldCells]
    | succ i =>
      have := ih i (by simpa using hi)
      rw [show (i + 1) * 2 = i * 2 + 1 + 1 by omega]
      simpa [toldCells] using this

set_option maxHeartbeats 8000000 in
set_option maxRecDepth 1000000 in
theorem keepsFounds_any {w : World} {wb : Nat} {hs ss v : Value} {b : Bk} {t : Told} (X : Nat → Prop) (hX : X wb) (hXF : ∀ i, b.fs.ownBlock = some i → X i) (hXV : ∀ i, v.ownBlock = some i → X i) (h : BkAt w wb hs ss b) (hv : ToldAt w 0 v t) (hA : Apart t) (hlt : ∀ x ∈ t, ∀ a, x.2.1 = some a → a.block < w.heap.size ∧ ¬ b.blk a.block) (hvb : ∀ k, v.ownBlock = some k → ¬ b.blk k)
    (hN : b.eb.length + 4 * t.length ≤ 1099511627776) (hn : ∀ x ∈ t, x.1.2.length ≤ 1048576) (hF : b.ef.length ≤ 1099511627776) (hT : t.length ≤ 1099511627776) :
    Calls Tryz.prog 70 #[.pointer (some ⟨wb, 2, none⟩), v] w fun e w' => e = .returned (.tuple #[]) ∧ ∃ wr c fs' v1 v2 v3, FMid w wb hs ss v b t wr t.length c ∧ 
      KInv wr X wb w' #[hs, ss, c.bs, fs', b.ls, b.is] 65 63 fs' (b.ef ++ [v, v1, v2, v3]) (mkF b.ef.length) [(v, t.length), (v1, t.length + 1), (v2, t.length + 2), (v3, t.length + 3)] := by
  obtain ⟨i0, hi, hz0, hz1, hz2⟩ := info_parts infoFound
  obtain ⟨i1, hi1, hy0, hy1, hy2⟩ := info_parts infoFounds
  have H0 : Hid (∃ c, FMid w wb hs ss v b t w 0 c) := ⟨b, h, by omega, rfl, rfl, rfl, rfl, rfl, rfl, rfl, Keeps.refl _ _, fun k hk => .inl hk, hv.1, fun x hx => hv.2 x (by simpa using hx)⟩
  have HS : Hid (∀ wr i c (hi : i < t.length), FMid w wb hs ss v b t wr i c → Calls Tryz.prog 34 #[.pointer (some ⟨wb, 2, none⟩), .slice t[i].2.1 t[i].1.2.length t[i].2.2] wr fun e w' => e = .returned (.tuple #[]) ∧ ∃ c', FMid w wb hs ss v b t w' (i + 1) c') := fun wr i c hi hm => hm.step hA hlt hi hN hn
  obtain ⟨p, cp, rfl, hpg⟩ := ownsRow_slice hv.1
  clear h hv hA hlt hvb hN hn
  go_enter Tryz.func70, Tryz.ntmps70
  go_wp2
  go_loopw [4] (fun i wr => ∃ k : Nat, k ≤ t.length ∧ i = .int .i64 k ∧ ∃ c, FMid w wb hs ss (.slice p t.length cp) b t wr k c) (fun i _ => t.length - (intOf i).toNat)
  case atStart => exact ⟨0, Nat.zero_le _, rfl, unhide H0⟩
  case round =>
    obtain ⟨k, hk, rfl, c, hm⟩ := hrel
    clear H0
    by_cases hlt : k < t.length
    · obtain ⟨g, rfl⟩ := hpg (by omega)
      have e2 := told_get t k hlt
      have cV := World.ownsRow.cells hm.row (g := g) rfl (k * 2 + 1) _ e2.2
      rw [Go.WideShapes.add_plain, Nat.zero_add] at cV
      have KC := hide (unhide HS wr k c hlt hm)
      clear e2 hm
      generalize t[k] = x at *
      go_wp2_with fail
      refine (unhide KC).mono ?_
      rintro e w' ⟨rfl, c', hm'⟩
      have HM := hide hm'
      clear hm' KC
      go_wp2
      go_roundw
      case rel => exact ⟨k + 1, hlt, by go_num, c', unhide HM⟩
      case measure => simp [intOf]; omega
    · have hkt : k = t.length := by omega
      subst hkt
      clear HS
      have d3 := hm.at_.head.cell 3 _ rfl
      have hcf := hm.fs
      have hce := hm.ef
      rw [hcf] at d3
      obtain ⟨fp, fc, hfs, _⟩ := ownsRow_slice hm.at_.rf
      rw [hcf, hce] at hfs
      rw [hfs] at d3
      have hq4 := quo4 b.ef.length
      have HMID := hide hm
      clear hm
      go_wp2
      have hA0 := alloc1_a wr (.cells #[.int .i64 (-1000 - (b.ef.length : Int) / 4), .slice none 0 0] 65)
      have hbA := (Below.refl wr.heap.size wr).alloc (Nat.le_refl _) (.cells #[.int .i64 (-1000 - (b.ef.length : Int) / 4), .slice none 0 0] 65)
      have hzA := alloc1_s wr (.cells #[.int .i64 (-1000 - (b.ef.length : Int) / 4), .slice none 0 0] 65)
      generalize hWA : wr.alloc (.cells #[.int .i64 (-1000 - (b.ef.length : Int) / 4), .slice none 0 0] 65) = WA at hA0 hbA hzA
      clear hWA
      have HFM := hide ((unhide HMID).later hbA)
      have hgl : ∀ g, (Value.slice p t.length cp).ownBlock = some g → g < wr.heap.size := fun g hg => ((unhide HMID).row.lt g hg).2
      clear HMID hbA
      generalize wr.heap.size = nB at *
      have HROW : Hid (WA.ownsRow 0 65 2 (.slice p t.length cp) t.length (reps (mkF b.ef.length) 0 ++ (toldCells t).drop (0 * 2))) := by
        have := (unhide HFM).row
        rw [Nat.zero_mul, List.drop_zero]
        exact hide (by simpa [reps] using this)
      have HHEAD := hide (unhide HFM).at_.head
      have HFS := hide (unhide HFM).at_.rf
      rw [hcf, hce, hfs] at HFS
      go_loopw [6] (fun i wq => ∃ k : Nat, k ≤ t.length ∧ i = .int .i64 k ∧ wq.ownsRow 0 65 2 (.slice p t.length cp) t.length (reps (mkF b.ef.length) k ++ (toldCells t).drop (k * 2)) ∧ Keeps (fun k => some k = (Value.slice p t.length cp).ownBlock) WA wq) (fun i _ => t.length - (intOf i).toNat)
      case atStart => exact ⟨0, Nat.zero_le _, rfl, unhide HROW, Keeps.refl _ _⟩
      case round =>
        obtain ⟨k, hk, rfl, hrow, hkp⟩ := hrel
        clear HROW
        have hnb : ¬ some nB = (Value.slice p t.length cp).ownBlock := by
          intro e
          have h2 := hgl nB e.symm
          omega
        have hBx := (hkp.block nB (by omega) hnb).trans hA0
        have cB0 : wr.cell? ⟨nB, 0, none⟩ = some (.int .i64 (-1000 - (b.ef.length : Int) / 4)) := by rw [Lib.cell_of_heap hBx]; rfl
        have cB1 : wr.cell? ⟨nB, 1, none⟩ = some (.slice none 0 0) := by rw [Lib.cell_of_heap hBx]; rfl
        by_cases hlt : k < t.length
        · obtain ⟨g, rfl⟩ := hpg (by omega)
          obtain ⟨⟨x0, c0⟩, ⟨x1, c1⟩, f0, f1, hst, hks⟩ := found_step hlt hrow (by rw [toldCells_length])
          have HS : Hid (_ ∧ _) := hide (And.intro hst (hkp.trans (hks.mono (fun i hi => by rw [hi]; rfl))))
          clear hst hks hrow hkp
          go_wp2
          go_roundw
          case rel =>
            obtain ⟨q1, q2⟩ := unhide HS
            exact ⟨k + 1, hlt, by go_num, q1, q2⟩
          case measure => simp [intOf]; omega
        · have hkt : k = t.length := by omega
          subst hkt
          have hd : (toldCells t).drop (t.length * 2) = [] := List.drop_eq_nil_of_le (by rw [toldCells_length]; omega)
          rw [hd, List.append_nil] at hrow
          obtain ⟨cbs, HBS⟩ : ∃ u, Hid (c.bs = u) := ⟨_, rfl⟩
          have hmk1 : MarksK wr 65 (mkF b.ef.length) (.slice p t.length cp) t.length := hrow
          have hvrow : ∀ i, some i = (Value.slice p t.length cp).ownBlock → ∃ cc, WA.heap[i]? = some (.cells cc 65 (0, 0)) := fun i hi => ownsRow_isRow (unhide HFM).row hi.symm
          have hhd : WAt wr wb #[hs, ss, c.bs, .slice fp b.ef.length fc, b.ls, b.is] := by
            have h1 := unhide HHEAD
            rw [hcf, hfs, (unhide HFM).ls, (unhide HFM).is] at h1
            refine h1.keeps hkp (fun hx => ?_)
            obtain ⟨cc, hc⟩ := hvrow wb hx
            unfold WAt at h1
            rw [hc] at h1
            simp at h1
          have hfr : wr.ownsRow 0 63 1 (.slice fp b.ef.length fc) b.ef.length b.ef := by
            refine ownsRow_keepsB (unhide HFS) hkp (fun i hi hx => ?_)
            obtain ⟨cc, hc⟩ := hvrow i hx
            obtain ⟨c2, hc2⟩ := ownsRow_isRow (unhide HFS) hi
            rw [hc] at hc2
            simp at hc2
          rw [hfs] at hXF
          have hls := (unhide HFM).ls
          have his := (unhide HFM).is
          obtain ⟨cls, HLS⟩ : ∃ u, Hid (b.ls = u) := ⟨_, rfl⟩
          obtain ⟨cis, HIS⟩ : ∃ u, Hid (b.is = u) := ⟨_, rfl⟩
          rw [unhide HLS, unhide HIS] at hhd
          rw [unhide HBS] at hhd
          have HK0 : Hid (KInv WA X wb wr #[hs, ss, cbs, .slice fp b.ef.length fc, cls, cis] 65 63 (.slice fp b.ef.length fc) b.ef (mkF b.ef.length) [(.slice p t.length cp, t.length)]) :=
            ⟨hhd, hfr, fun u hu => by simp at hu; subst hu; exact hmk1, hkp.mono (fun i hi => hXV i hi.symm), fun i hi => .inl (hXF i hi), fun u hu => by simp at hu; subst hu; exact fun i hi => .inl (hXV i hi)⟩
          have HMV : Hid (Mine X WA.heap.size (.slice p t.length cp)) := fun i hi => .inl (hXV i hi)
          have HBX0 := hBx
          have HM0 := hide hmk1
          have hsz0 := (unhide HK0).keeps.size
          have ho : ∀ u ∈ mkF b.ef.length, u.oneCell' = true := by intro u hu; unfold mkF at hu; simp at hu; rcases hu with rfl | rfl <;> rfl
          clear hmk1 hhd hfr hrow hkp hd hBx HHEAD HFS hvrow cB0 cB1 hls his
          have hmk0 : 0 < (mkF b.ef.length).length := Nat.zero_lt_succ _
          -- THE END (mkfounds.py)
          have HA1 := hide (World.ownsRow.alloc (unhide HM0) (.cells #[.int .i64 (-1000 - (b.ef.length : Int) / 4), .slice none 0 0] 65))
          have cB0 : wr.cell? ⟨nB, 0, none⟩ = some (.int .i64 (-1000 - (b.ef.length : Int) / 4)) := by rw [Lib.cell_of_heap HBX0]; rfl
          have cB1 : wr.cell? ⟨nB, 1, none⟩ = some (.slice none 0 0) := by rw [Lib.cell_of_heap HBX0]; rfl
          go_wp2_with (at_builtin; refine wpList_append_marks _ rfl _ _ 63 rfl 65 i0 _ 32 (mkF b.ef.length) Tryz.underlying63 hi hz0 hz1 hz2 rfl hmk0 ho _ _ rfl (unhide HA1) ⟨wr.heap.size, 0, none⟩ 1 1 (by decide) rfl ?m1c1 ?m1c2 ?m1c3 ?_)
          case m1c1 => first | exact newsL wr (reps (mkF b.ef.length) 1) 65 | exact fun j u hj => hj
          case m1c2 => unfold maxLen; omega
          case m1c3 => omega
          intro v1 w1 hm1 hk1 hg1 hb1
          have HK1 := hide ((unhide HK0).mark (by decide) (by decide) (unhide HM0) (unhide HMV) (by first | (simp; done) | (simp; omega)) hm1 hk1 hg1 (by rw [alloc1_s]; exact hb1))
          obtain ⟨p1, cp1, rfl, _⟩ := ownsRow_slice hm1
          have HM1 := hide ((unhide HK1).marks (.slice p t.length cp, t.length) (by simp))
          have hsz1 := (unhide HK1).keeps.size
          have HBX1 := box_grown HBX0 hg1 hnb
          clear cB0 cB1
          clear hm1 hk1 hg1 hb1 HA1 HM0 HK0 HBX0
          have HA2 := hide (World.ownsRow.alloc (unhide HM1) (.cells #[.int .i64 (-1000 - (b.ef.length : Int) / 4), .slice none 0 0, .int .i64 (-1000 - (b.ef.length : Int) / 4), .slice none 0 0] 65))
          have cB0 : w1.cell? ⟨nB, 0, none⟩ = some (.int .i64 (-1000 - (b.ef.length : Int) / 4)) := by rw [Lib.cell_of_heap HBX1]; rfl
          have cB1 : w1.cell? ⟨nB, 1, none⟩ = some (.slice none 0 0) := by rw [Lib.cell_of_heap HBX1]; rfl
          go_wp2_with (at_builtin; refine wpList_append_marks _ rfl _ _ 63 rfl 65 i0 _ 32 (mkF b.ef.length) Tryz.underlying63 hi hz0 hz1 hz2 rfl hmk0 ho _ _ rfl (unhide HA2) ⟨w1.heap.size, 0, none⟩ 2 2 (by decide) rfl ?m2c1 ?m2c2 ?m2c3 ?_)
          case m2c1 => first | exact newsL w1 (reps (mkF b.ef.length) 2) 65 | exact fun j u hj => hj
          case m2c2 => unfold maxLen; omega
          case m2c3 => omega
          intro v2 w2 hm2 hk2 hg2 hb2
          have HK2 := hide ((unhide HK1).mark (by decide) (by decide) (unhide HM1) (unhide HMV) (by first | (simp; done) | (simp; omega)) hm2 hk2 hg2 (by rw [alloc1_s]; exact hb2))
          obtain ⟨p2, cp2, rfl, _⟩ := ownsRow_slice hm2
          have HM2 := hide ((unhide HK2).marks (.slice p t.length cp, t.length) (by simp))
          have hsz2 := (unhide HK2).keeps.size
          have HBX2 := box_grown HBX1 hg2 hnb
          clear cB0 cB1
          clear hm2 hk2 hg2 hb2 HA2 HM1 HK1 HBX1
          have HA3 := hide (World.ownsRow.alloc (unhide HM2) (.cells #[.int .i64 (-1000 - (b.ef.length : Int) / 4), .slice none 0 0, .int .i64 (-1000 - (b.ef.length : Int) / 4), .slice none 0 0, .int .i64 (-1000 - (b.ef.length : Int) / 4), .slice none 0 0] 65))
          have cB0 : w2.cell? ⟨nB, 0, none⟩ = some (.int .i64 (-1000 - (b.ef.length : Int) / 4)) := by rw [Lib.cell_of_heap HBX2]; rfl
          have cB1 : w2.cell? ⟨nB, 1, none⟩ = some (.slice none 0 0) := by rw [Lib.cell_of_heap HBX2]; rfl
          go_wp2_with (at_builtin; refine wpList_append_marks _ rfl _ _ 63 rfl 65 i0 _ 32 (mkF b.ef.length) Tryz.underlying63 hi hz0 hz1 hz2 rfl hmk0 ho _ _ rfl (unhide HA3) ⟨w2.heap.size, 0, none⟩ 3 3 (by decide) rfl ?m3c1 ?m3c2 ?m3c3 ?_)
          case m3c1 => first | exact newsL w2 (reps (mkF b.ef.length) 3) 65 | exact fun j u hj => hj
          case m3c2 => unfold maxLen; omega
          case m3c3 => omega
          intro v3 w3 hm3 hk3 hg3 hb3
          have HK3 := hide ((unhide HK2).mark (by decide) (by decide) (unhide HM2) (unhide HMV) (by first | (simp; done) | (simp; omega)) hm3 hk3 hg3 (by rw [alloc1_s]; exact hb3))
          obtain ⟨p3, cp3, rfl, _⟩ := ownsRow_slice hm3
          have HM3 := hide ((unhide HK3).marks (.slice p t.length cp, t.length) (by simp))
          have hsz3 := (unhide HK3).keeps.size
          have HBX3 := box_grown HBX2 hg3 hnb
          clear cB0 cB1
          clear hm3 hk3 hg3 hb3 HA3 HM2 HK2 HBX2
          have d0 := (unhide HK3).head.cell 3 _ rfl
          have HB0 := hide (World.ownsRow.alloc (unhide HK3).row (.cells #[.slice p t.length cp] 63))
          go_wp2_with (at_builtin; refine wpList_append_own_at _ rfl _ _ 39 rfl 0 63 i1 _ 1 24 Tryz.underlying39 hi1 hy0 hy1 hy2 rfl (by decide) _ _ _ rfl (unhide HB0) ⟨w3.heap.size, 0, none⟩ 1 1 [.slice p t.length cp] rfl rfl ?p0c1 ?p0c2 ?p0c3 ?p0c4 ?p0c5 ?_)
          case p0c2 => first | rfl | (intro u hu; simp at hu; subst hu; rfl)
          case p0c3 => unfold maxLen; first | omega | (simp; omega)
          case p0c4 => first | omega | (simp; omega)
          intro b0 y0 hown0 hg0 _ hb0
          have hd0 := (unhide HK3).pushHead (by decide) hg0
          have e0 := hd0.cell 3 _ rfl
          have f0 := hd0.fz
          have HP0 : Hid (KInv WA X wb (y0.setCell ⟨wb, 3, none⟩ b0) #[hs, ss, cbs, b0, cls, cis] 65 63 b0 (b.ef ++ [.slice p t.length cp]) (mkF b.ef.length) _) := (unhide HK3).push hX (by decide) (by decide) (by decide) (by simpa using hown0) hg0 hb0 (by omega) 3
          obtain ⟨bp0, bc0, rfl, _⟩ := ownsRow_slice hown0
          have hyz0 : WA.heap.size ≤ y0.heap.size := by have := (unhide HP0).keeps.size; rwa [size_setCell] at this
          clear hown0 hg0 hb0 hd0 d0 HB0 HK3
          have d1 := (unhide HP0).head.cell 3 _ rfl
          have HB1 := hide (World.ownsRow.alloc (unhide HP0).row (.cells #[.slice p1 (t.length + 1) cp1] 63))
          go_wp2_with (at_builtin; refine wpList_append_own_at _ rfl _ _ 39 rfl 0 63 i1 _ 1 24 Tryz.underlying39 hi1 hy0 hy1 hy2 rfl (by decide) _ _ _ rfl (unhide HB1) ⟨y0.heap.size, 0, none⟩ 1 1 [.slice p1 (t.length + 1) cp1] rfl rfl ?p1c1 ?p1c2 ?p1c3 ?p1c4 ?p1c5 ?_)
          case p1c1 => have q := news1 (y0.setCell ⟨wb, 3, none⟩ (.slice bp0 (b.ef.length + 1) bc0)) (.slice p1 (t.length + 1) cp1) 63; rw [size_setCell] at q; exact q
          case p1c5 => exact Nat.zero_le _
          case p1c2 => first | rfl | (intro u hu; simp at hu; subst hu; rfl)
          case p1c3 => unfold maxLen; first | omega | (simp; omega)
          case p1c4 => first | omega | (simp; omega)
          intro b1 y1 hown1 hg1 _ hb1
          have hd1 := (unhide HP0).pushHead (by decide) hg1
          have e1 := hd1.cell 3 _ rfl
          have f1 := hd1.fz
          have HP1 : Hid (KInv WA X wb (y1.setCell ⟨wb, 3, none⟩ b1) #[hs, ss, cbs, b1, cls, cis] 65 63 b1 (b.ef ++ [.slice p t.length cp] ++ [.slice p1 (t.length + 1) cp1]) (mkF b.ef.length) _) := (unhide HP0).push hX (by decide) (by decide) (by decide) (by simpa using hown1) hg1 hb1 (by omega) 3
          obtain ⟨bp1, bc1, rfl, _⟩ := ownsRow_slice hown1
          have hyz1 : WA.heap.size ≤ y1.heap.size := by have := (unhide HP1).keeps.size; rwa [size_setCell] at this
          clear hown1 hg1 hb1 hd1 d1 HB1 HP0
          have d2 := (unhide HP1).head.cell 3 _ rfl
          have HB2 := hide (World.ownsRow.alloc (unhide HP1).row (.cells #[.slice p2 (t.length + 2) cp2] 63))
          go_wp2_with (at_builtin; refine wpList_append_own_at _ rfl _ _ 39 rfl 0 63 i1 _ 1 24 Tryz.underlying39 hi1 hy0 hy1 hy2 rfl (by decide) _ _ _ rfl (unhide HB2) ⟨y1.heap.size, 0, none⟩ 1 1 [.slice p2 (t.length + 2) cp2] rfl rfl ?p2c1 ?p2c2 ?p2c3 ?p2c4 ?p2c5 ?_)
          case p2c1 => have q := news1 (y1.setCell ⟨wb, 3, none⟩ (.slice bp1 (b.ef.length + 2) bc1)) (.slice p2 (t.length + 2) cp2) 63; rw [size_setCell] at q; exact q
          case p2c5 => exact Nat.zero_le _
          case p2c2 => first | rfl | (intro u hu; simp at hu; subst hu; rfl)
          case p2c3 => unfold maxLen; first | omega | (simp; omega)
          case p2c4 => first | omega | (simp; omega)
          intro b2 y2 hown2 hg2 _ hb2
          have hd2 := (unhide HP1).pushHead (by decide) hg2
          have e2 := hd2.cell 3 _ rfl
          have f2 := hd2.fz
          have HP2 : Hid (KInv WA X wb (y2.setCell ⟨wb, 3, none⟩ b2) #[hs, ss, cbs, b2, cls, cis] 65 63 b2 (b.ef ++ [.slice p t.length cp] ++ [.slice p1 (t.length + 1) cp1] ++ [.slice p2 (t.length + 2) cp2]) (mkF b.ef.length) _) := (unhide HP1).push hX (by decide) (by decide) (by decide) (by simpa using hown2) hg2 hb2 (by omega) 3
          obtain ⟨bp2, bc2, rfl, _⟩ := ownsRow_slice hown2
          have hyz2 : WA.heap.size ≤ y2.heap.size := by have := (unhide HP2).keeps.size; rwa [size_setCell] at this
          clear hown2 hg2 hb2 hd2 d2 HB2 HP1
          have d3 := (unhide HP2).head.cell 3 _ rfl
          have HB3 := hide (World.ownsRow.alloc (unhide HP2).row (.cells #[.slice p3 (t.length + 3) cp3] 63))
          go_wp2_with (at_builtin; refine wpList_append_own_at _ rfl _ _ 39 rfl 0 63 i1 _ 1 24 Tryz.underlying39 hi1 hy0 hy1 hy2 rfl (by decide) _ _ _ rfl (unhide HB3) ⟨y2.heap.size, 0, none⟩ 1 1 [.slice p3 (t.length + 3) cp3] rfl rfl ?p3c1 ?p3c2 ?p3c3 ?p3c4 ?p3c5 ?_)
          case p3c1 => have q := news1 (y2.setCell ⟨wb, 3, none⟩ (.slice bp2 (b.ef.length + 3) bc2)) (.slice p3 (t.length + 3) cp3) 63; rw [size_setCell] at q; exact q
          case p3c5 => exact Nat.zero_le _
          case p3c2 => first | rfl | (intro u hu; simp at hu; subst hu; rfl)
          case p3c3 => unfold maxLen; first | omega | (simp; omega)
          case p3c4 => first | omega | (simp; omega)
          intro b3 y3 hown3 hg3 _ hb3
          have hd3 := (unhide HP2).pushHead (by decide) hg3
          have e3 := hd3.cell 3 _ rfl
          have f3 := hd3.fz
          have HP3 : Hid (KInv WA X wb (y3.setCell ⟨wb, 3, none⟩ b3) #[hs, ss, cbs, b3, cls, cis] 65 63 b3 (b.ef ++ [.slice p t.length cp] ++ [.slice p1 (t.length + 1) cp1] ++ [.slice p2 (t.length + 2) cp2] ++ [.slice p3 (t.length + 3) cp3]) (mkF b.ef.length) _) := (unhide HP2).push hX (by decide) (by decide) (by decide) (by simpa using hown3) hg3 hb3 (by omega) 3
          obtain ⟨bp3, bc3, rfl, _⟩ := ownsRow_slice hown3
          have hyz3 : WA.heap.size ≤ y3.heap.size := by have := (unhide HP3).keeps.size; rwa [size_setCell] at this
          clear hown3 hg3 hb3 hd3 d3 HB3 HP2
          go_wp2
          have q := unhide HP3
          simp only [List.append_assoc, List.cons_append, List.nil_append] at q
          go_end0
          rw [← unhide HBS, ← unhide HLS, ← unhide HIS] at q
          exact ⟨rfl, WA, c, _, _, _, _, unhide HFM, q⟩
end Go.Proofs.YtkalonhalhdlaaaGreatDoor

/-
  What one call of the book's keepsFounds does to the book.
-/
namespace Go.Proofs.YtkalonhalhdlaaaGreatDoor
open Go.RowKit

theorem keepsFounds_bk {w : World} {wb : Nat} {hs ss v : Value} {b : Bk} {t : Told} (h : BkAt w wb hs ss b) (hv : ToldAt w 0 v t) (hA : Apart t) (hlt : ∀ x ∈ t, ∀ a, x.2.1 = some a → a.block < w.heap.size ∧ ¬ b.blk a.block) (hvb : ∀ k, v.ownBlock = some k → ¬ b.blk k)
    (hN : b.eb.length + 4 * t.length ≤ 1099511627776) (hn : ∀ x ∈ t, x.1.2.length ≤ 1048576) (hF : b.ef.length ≤ 1099511627776) (hT : t.length ≤ 1099511627000) :
    Calls Tryz.prog 70 #[.pointer (some ⟨wb, 2, none⟩), v] w fun e w' => e = .returned (.tuple #[]) ∧ ∃ b' : Bk, BkAt w' wb hs ss b' ∧ b'.eb.length = b.eb.length + 4 * t.length ∧ b'.ef.length = b.ef.length + 4 ∧ b'.el = b.el ∧ b'.ei = b.ei ∧
      Keeps (fun k => k = wb ∨ b.blk k ∨ toldBlk v t k) w w' ∧ (∀ k, b'.blk k → b.blk k ∨ toldBlk v t k ∨ w.heap.size ≤ k) := by
  refine (keepsFounds_any (turnB wb b.fs v) (.inl rfl) (fun i hi => .inr (.inl hi.symm)) (fun i hi => .inr (.inr hi.symm)) h hv hA hlt hvb hN hn hF (by omega)).mono ?_
  rintro e w' ⟨rfl, wr, c, fs', v1, v2, v3, M, K⟩
  have hvlt : ∀ k, v.ownBlock = some k → k < w.heap.size := fun k hk => (hv.1.lt k hk).2
  have hfs : ∀ k, fs'.ownBlock = some k → b.fs.ownBlock = some k ∨ wr.heap.size ≤ k := by
    intro k hk
    rcases K.mineB k hk with (hx | hx | hx) | hx
    · exfalso
      obtain ⟨c, hc⟩ := ownsRow_isRow K.row hk
      have h3 := K.head
      unfold WAt at h3
      rw [← hx, hc] at h3
      simp at h3
    · exact .inl hx.symm
    · exfalso
      obtain ⟨c, hc⟩ := ownsRow_isRow K.row hk
      obtain ⟨c2, hc2⟩ := ownsRow_isRow (K.marks (v, t.length) (by simp)) (k := k) hx.symm
      rw [hc] at hc2
      simp at hc2
    · exact .inr hx
  have hmk : ∀ u : Value × Nat, u ∈ [(v, t.length), (v1, t.length + 1), (v2, t.length + 2), (v3, t.length + 3)] → ∀ k, u.1.ownBlock = some k → b.blk k ∨ v.ownBlock = some k ∨ wr.heap.size ≤ k := by
    intro u hu k hk
    rcases K.mineU u hu k hk with (hx | hx | hx) | hx
    · exfalso
      obtain ⟨c, hc⟩ := ownsRow_isRow (K.marks u hu) hk
      have h3 := K.head
      unfold WAt at h3
      rw [← hx, hc] at h3
      simp at h3
    · exact .inl (.inr (.inl hx.symm))
    · exact .inr (.inl hx.symm)
    · exact .inr (.inr hx)
  have hsz := M.keeps.size
  have hno : ∀ k, c.blk k → b.fs.ownBlock ≠ some k → ¬ turnB wb b.fs v k := by
    rintro k hk hne (rfl | hx | hx)
    · exact M.at_.notHead hk
    · exact hne hx.symm
    · rcases M.blk k hk with h1 | ⟨x, hx2, a, ha, rfl⟩ | h1
      · exact hvb k hx.symm h1
      · obtain ⟨f, p, cp⟩ := x
        simp only at ha
        subst ha
        obtain ⟨c1, hc1⟩ := ownsRow_isRow (hv.2 _ (List.mem_of_mem_take hx2)) (k := a.block) rfl
        obtain ⟨c2, hc2⟩ := ownsRow_isRow hv.1 hx.symm
        rw [hc1] at hc2
        simp at hc2
      · have := hvlt k hx.symm
        omega
  have hty : ∀ {k : Nat} {cc : Array Value} {ty : TypeId}, wr.heap[k]? = some (.cells cc ty (0, 0)) → ty ≠ 63 → b.fs.ownBlock ≠ some k := by
    intro k cc ty hc ht hk
    have hrf := M.at_.rf
    rw [M.fs] at hrf
    obtain ⟨c2, hc2⟩ := ownsRow_isRow hrf hk
    rw [hc] at hc2
    simp at hc2
    exact ht hc2.2
  have hrow : ∀ {k : Nat} {ty : TypeId} {sz m : Nat} {u : Value} {ys : List Value}, wr.ownsRow 0 ty sz u m ys → u.ownBlock = some k → ty ≠ 63 → b.fs.ownBlock ≠ some k := by
    intro k ty sz m u ys hr hk ht
    obtain ⟨cc, hc⟩ := ownsRow_isRow hr hk
    exact hty hc ht
  have hA2 := M.at_
  refine ⟨rfl, ⟨c.bs, fs', b.ls, b.is, c.eb, b.ef ++ [v, v1, v2, v3], b.el, b.ei, b.mg⟩, ⟨K.head, ?_, K.row, ?_, ?_, ?_, ?_, ?_, ?_, ?_, hA2.fb, ?_, h.fl, h.fi, ?_⟩, by show c.eb.length = _; rw [M.len], by simp, rfl, rfl, ?_, ?_⟩
  · exact ownsRow_keepsB hA2.rb K.keeps fun k e => hno k (.inl e) (hrow hA2.rb e (by decide))
  · have q := hA2.rl
    have q2 : ∀ k, c.ls.ownBlock = some k → ¬ turnB wb b.fs v k := fun k e => hno k (.inr (.inr (.inl e))) (hrow hA2.rl e (by decide))
    rw [M.ls] at q q2
    rw [M.el] at q
    exact ownsRow_keepsB q K.keeps q2
  · have q := hA2.ri
    have q2 : ∀ k, c.is.ownBlock = some k → ¬ turnB wb b.fs v k := fun k e => hno k (.inr (.inr (.inr (.inl e)))) (hrow hA2.ri e (by decide))
    rw [M.is] at q q2
    rw [M.ei] at q
    exact ownsRow_keepsB q K.keeps q2
  · intro i u hi
    obtain ⟨m, hm, hm2⟩ := hA2.mb i u hi
    exact ⟨m, ownsRow_keepsB hm K.keeps fun k e => hno k (.inr (.inr (.inr (.inr (.inl ⟨u, mem_of_get hi, e⟩))))) (hrow hm e (by decide)), hm2⟩
  · intro i u hi
    rcases get_four hi with ⟨hlt, hi⟩ | ⟨j, hj, rfl, hi⟩
    · rw [← M.ef] at hi
      obtain ⟨m, hm, hm2⟩ := hA2.mf i u hi
      exact ⟨m, ownsRow_keepsB hm K.keeps fun k e => hno k (.inr (.inr (.inr (.inr (.inr (.inl ⟨u, mem_of_get hi, e⟩)))))) (hrow hm e (by decide)), hm2⟩
    · rw [mkF_four h.ff j hj]
      have hc : j = 0 ∨ j = 1 ∨ j = 2 ∨ j = 3 := by omega
      rcases hc with rfl | rfl | rfl | rfl <;> (simp at hi; subst hi)
      · exact ⟨t.length, K.marks (v, t.length) (by simp), by omega⟩
      · exact ⟨t.length + 1, K.marks (v1, t.length + 1) (by simp), by omega⟩
      · exact ⟨t.length + 2, K.marks (v2, t.length + 2) (by simp), by omega⟩
      · exact ⟨t.length + 3, K.marks (v3, t.length + 3) (by simp), by omega⟩
  · intro i u hi
    have hi2 : c.el[i]? = some u := by rw [M.el]; exact hi
    obtain ⟨m, hm, hm2⟩ := hA2.ml i u hi2
    rw [M.mg] at hm
    exact ⟨m, ownsRow_keepsB hm K.keeps fun k e => hno k (.inr (.inr (.inr (.inr (.inr (.inr (.inl ⟨u, mem_of_get hi2, e⟩))))))) (hrow hm e (by decide)), hm2⟩
  · intro i u hi
    have hi2 : c.ei[i]? = some u := by rw [M.ei]; exact hi
    obtain ⟨m, hm, hm2⟩ := hA2.mi i u hi2
    exact ⟨m, ownsRow_keepsB hm K.keeps fun k e => hno k (.inr (.inr (.inr (.inr (.inr (.inr (.inr (.inl ⟨u, mem_of_get hi2, e⟩)))))))) (hrow hm e (by decide)), hm2⟩
  · intro i hi
    have hi2 : i < c.el.length := by rw [M.el]; exact hi
    have ht := hA2.two i hi2
    have hq := hno _ (.inr (.inr (.inr (.inr (.inr (.inr (.inr (.inr ⟨i, hi2, rfl⟩)))))))) (hty ht (by decide))
    rw [M.mg] at ht hq
    unfold TwoAt at ht ⊢
    rw [K.keeps.block _ (Array.getElem?_eq_some_iff.1 ht).1 hq]
    exact ht
  · have := h.ff
    simp
    omega
  · intro u hu k hk
    exact hA2.apart u (by rw [M.el]; exact hu) k hk
  · refine ⟨K.keeps.os.trans M.keeps.os, K.keeps.tape.trans M.keeps.tape, K.keeps.output.trans M.keeps.output, Nat.le_trans hsz K.keeps.size, fun k hk hx => ?_⟩
    rw [K.keeps.block k (by omega) ?_]
    · exact M.keeps.block k hk hx
    · rintro (rfl | hb | hb)
      · exact hx (.inl rfl)
      · exact hx (.inr (.inl (.inr (.inl hb.symm))))
      · exact hx (.inr (.inr (.inl hb.symm)))
  · have hcb : ∀ k, c.blk k → b.blk k ∨ toldBlk v t k ∨ w.heap.size ≤ k := by
      intro k hk
      rcases M.blk k hk with h1 | ⟨x, hx, a, ha, e⟩ | h1
      · exact .inl h1
      · exact .inr (.inl (.inr ⟨x, List.mem_of_mem_take hx, a, ha, e⟩))
      · exact .inr (.inr h1)
    have hmk2 : ∀ u : Value × Nat, u ∈ [(v, t.length), (v1, t.length + 1), (v2, t.length + 2), (v3, t.length + 3)] → ∀ k, u.1.ownBlock = some k → b.blk k ∨ toldBlk v t k ∨ w.heap.size ≤ k := by
      intro u hu k hk
      rcases hmk u hu k hk with h1 | h1 | h1
      · exact .inl h1
      · exact .inr (.inl (.inl h1))
      · exact .inr (.inr (Nat.le_trans hsz h1))
    intro k hk
    rcases hk with hk | hk | hk | hk | ⟨u, hu, hk⟩ | ⟨u, hu, hk⟩ | hk | hk | hk
    · exact hcb k (.inl hk)
    · rcases hfs k hk with hx | hx
      · exact .inl (.inr (.inl hx))
      · exact .inr (.inr (Nat.le_trans hsz hx))
    · exact .inl (.inr (.inr (.inl hk)))
    · exact .inl (.inr (.inr (.inr (.inl hk))))
    · exact hcb k (.inr (.inr (.inr (.inr (.inl ⟨u, hu, hk⟩)))))
    · rcases mem_four hu with hu | rfl | rfl | rfl | rfl
      · exact .inl (.inr (.inr (.inr (.inr (.inr (.inl ⟨u, hu, hk⟩))))))
      · exact hmk2 (u, t.length) (by simp) k hk
      · exact hmk2 (u, t.length + 1) (by simp) k hk
      · exact hmk2 (u, t.length + 2) (by simp) k hk
      · exact hmk2 (u, t.length + 3) (by simp) k hk
    · exact .inl (.inr (.inr (.inr (.inr (.inr (.inr (.inl hk)))))))
    · exact .inl (.inr (.inr (.inr (.inr (.inr (.inr (.inr (.inl hk))))))))
    · exact .inl (.inr (.inr (.inr (.inr (.inr (.inr (.inr (.inr hk))))))))
end Go.Proofs.YtkalonhalhdlaaaGreatDoor
