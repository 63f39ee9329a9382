/-
  What one call of the book's keeps does.
-/
import Derived.Test.YtkalonhalhdlaaaGreatDoorVRows
import Derived.Laws.OwnMore
namespace Go.Proofs.YtkalonhalhdlaaaGreatDoor
open Go.RowKit

theorem infoBytes : (Tryz.prog.info? 28).map (fun i => (i.zero, i.size, i.bytes)) = some (some (.slice none 0 0), 1, 24) := by kernel_rfl
theorem ownsRow_slice {w : World} {base : Nat} {e : TypeId} {size : Nat} {v : Value} {n : Nat} {xs : List Value} (h : w.ownsRow base e size v n xs) : ∃ p cap, v = .slice p n cap ∧ (0 < n → ∃ g, p = some ⟨g, 0, none⟩) := by
  rcases h.2 with ⟨hv, hn⟩ | ⟨g, cap, cur, hv, _⟩
  · exact ⟨none, 0, by rw [hv, hn], fun h => by omega⟩
  · exact ⟨_, cap, hv, fun _ => ⟨g, rfl⟩⟩

theorem news3 (w : World) (a b c : Value) (e : TypeId) : ∀ j x, [a, b, c][j]? = some x → (w.alloc (.cells #[a, b, c] e)).cell? ((⟨w.heap.size, 0, none⟩ : Addr).add j) = some x := by
  intro j x hj
  rcases j with _ | _ | _ | j
  · simp at hj
    subst hj
    rw [Go.WideShapes.add_plain, Lib.cell_of_heap (alloc1_a w _)]
    rfl
  · simp at hj
    subst hj
    rw [Go.WideShapes.add_plain, Lib.cell_of_heap (alloc1_a w _)]
    rfl
  · simp at hj
    subst hj
    rw [Go.WideShapes.add_plain, Lib.cell_of_heap (alloc1_a w _)]
    rfl
  · simp at hj
theorem _root_.Go.World.ownsRow.len {w : World} {base : Nat} {e : TypeId} {size : Nat} {v : Value} {n m : Nat} {xs : List Value} (h : w.ownsRow base e size v n xs) (hn : n = m) : w.ownsRow base e size v m xs := hn ▸ h
theorem reps_put (a : Value) (xs : List Value) (k : Nat) (hk : k < xs.length) : (reps [a] k ++ xs.drop k).set k a = reps [a] (k + 1) ++ xs.drop (k + 1) := by
  have hl : (reps [a] k).length = k := by rw [reps_length]; simp
  rw [List.set_append_right _ _ (by omega), hl, Nat.sub_self, List.drop_eq_getElem_cons hk, List.set_cons_zero, reps_add]
  simp [reps]
theorem mark_step {w wr : World} {X : Nat → Prop} {wb g n cp k : Nat} {cs : Array Value} {S : TypeId} {bs : Value} {ents ys : List Value} {u : Value} (hS : S ≠ 5)
    (hv : wr.ownsRow 0 5 1 (.slice (some ⟨g, 0, none⟩) n cp) n ys) (hW : WAt wr wb cs) (hrow : wr.ownsRow 0 S 1 bs ents.length ents) (hkp : Keeps X w wr) (hm : Mine X w.heap.size (.slice (some ⟨g, 0, none⟩) n cp)) :
    (wr.setCell ⟨g, k, none⟩ u).ownsRow 0 5 1 (.slice (some ⟨g, 0, none⟩) n cp) n (ys.set k u) ∧ WAt (wr.setCell ⟨g, k, none⟩ u) wb cs ∧ (wr.setCell ⟨g, k, none⟩ u).ownsRow 0 S 1 bs ents.length ents ∧ Keeps X w (wr.setCell ⟨g, k, none⟩ u) := by
  have hst := hv.stored k u
  obtain ⟨c, hg⟩ := ownsRow_isRow hv (k := g) rfl
  have hK : Keeps (· = g) wr (wr.setCell ⟨g, k, none⟩ u) := (Keeps.refl _ wr).setB _ _
  refine ⟨hst.1, hW.keeps hK (fun e => ?_), ownsRow_keeps hrow hK (fun i hi c2 fz hc => ?_), hkp.mine hm hst.2⟩
  · have h3 := hW
    unfold WAt at h3
    rw [e, hg] at h3
    simp at h3
  · subst hi
    rw [hg] at hc
    simp at hc
    exact hS hc.2.1.symm

set_option maxHeartbeats 4000000 in
set_option maxRecDepth 1000000 in
theorem keeps_any (wb : Nat) (X : Nat → Prop) (hX : X wb) (hs ss bs fs ls is v : Value) (ents xs : List Value) (n : Nat) (w : World)
    (hW : WAt w wb #[hs, ss, bs, fs, ls, is]) (hrow : w.ownsRow 0 28 1 bs ents.length ents) (hv : w.ownsRow 0 5 1 v n xs) (hmb : Mine X w.heap.size bs) (hmv : Mine X w.heap.size v)
    (hN : ents.length ≤ 1099511627776) (hn : n ≤ 1099511627776) :
    Calls Tryz.prog 34 #[.pointer (some ⟨wb, 2, none⟩), v] w fun e w' => e = .returned (.tuple #[]) ∧ ∃ bs' v1 v2 v3,
      KInv w X wb w' #[hs, ss, bs', fs, ls, is] 5 28 bs' (ents ++ [v, v1, v2, v3]) [.int .u8 (markN ents.length : Nat)] [(v, n), (v1, n + 1), (v2, n + 2), (v3, n + 3)] := by
  obtain ⟨i0, hi, hz0, hz1, hz2⟩ := info_parts infoByte
  obtain ⟨i1, hi1, hy0, hy1, hy2⟩ := info_parts infoBytes
  obtain ⟨bp, bc, rfl, _⟩ := ownsRow_slice hrow
  obtain ⟨p, cp, rfl, hpg⟩ := ownsRow_slice hv
  have c2 := hW.cell 2 _ rfl
  have hxl : xs.length = n := by have := hv.1; omega
  have HMK := hide (mark_any ents.length w (by unfold maxLen; omega))
  have HW := hide hW
  have HR := hide hrow
  have HV := hide hv
  have HMB := hide hmb
  have HMV := hide hmv
  clear hW hrow hv hmb hmv
  generalize hmk : markN ents.length = mk at HMK
  go_enter Tryz.func34, Tryz.ntmps34
  go_wp2_with fail
  refine (unhide HMK).mono ?_
  rintro e W1 ⟨rfl, hW1⟩
  subst hW1
  clear HMK
  go_wp2
  go_loopw [5] (fun i wr => ∃ k : Nat, k ≤ n ∧ i = .int .i64 k ∧ wr.ownsRow 0 5 1 (.slice p n cp) n (reps [.int .u8 (mk : Nat)] k ++ xs.drop k) ∧ WAt wr wb #[hs, ss, .slice bp ents.length bc, fs, ls, is] ∧ wr.ownsRow 0 28 1 (.slice bp ents.length bc) ents.length ents ∧ Keeps X W1 wr) (fun i _ => n - (intOf i).toNat)
  case atStart => exact ⟨0, Nat.zero_le _, rfl, by simpa [reps] using unhide HV, unhide HW, unhide HR, Keeps.refl _ _⟩
  case round =>
    clear HV HW HR c2
    obtain ⟨k, hk, rfl, hv, hW, hrow, hkp⟩ := hrel
    by_cases hlt : k < n
    · obtain ⟨g, rfl⟩ := hpg (by omega)
      have hlen : (reps [Value.int .u8 (mk : Nat)] k ++ xs.drop k).length = n := by have := hv.1; omega
      obtain ⟨x0, hx0⟩ : ∃ x0, (reps [Value.int .u8 (mk : Nat)] k ++ xs.drop k)[k]? = some x0 := ⟨_, List.getElem?_eq_getElem (by omega)⟩
      have c0 := (hv.cellAt k (by omega)).trans hx0
      have fz := hv.frozenAt
      have hst := mark_step (k := k) (u := .int .u8 (mk : Nat)) (by decide) hv hW hrow hkp (unhide HMV)
      rw [reps_put _ _ _ (by omega)] at hst
      have HS := hide hst
      clear hst hx0 hlen
      go_wp2
      go_roundw
      case rel =>
        obtain ⟨q1, q2, q3, q4⟩ := unhide HS
        exact ⟨k + 1, hlt, by go_num, q1, q2, q3, q4⟩
      case measure => simp [intOf]; omega
    · have hkn : k = n := by omega
      subst hkn
      have hd : xs.drop k = [] := List.drop_eq_nil_of_le (by omega)
      rw [hd, List.append_nil] at hv
      have hmk1 : MarksK wr 5 [.int .u8 (mk : Nat)] (.slice p k cp) k := hv
      have HK : Hid (KInv W1 X wb wr #[hs, ss, .slice bp ents.length bc, fs, ls, is] 5 28 (.slice bp ents.length bc) ents [.int .u8 (mk : Nat)] [(.slice p k cp, k)]) :=
        ⟨hW, hrow, fun u hu => by simp at hu; subst hu; exact hmk1, hkp, unhide HMB, fun u hu => by simp at hu; subst hu; exact unhide HMV⟩
      clear hv hd hW hrow hkp
      have ho : ∀ u ∈ [Value.int .u8 (mk : Nat)], u.oneCell' = true := by intro u hu; simp at hu; subst hu; rfl
      have HM0 := hide hmk1
      have hsz0 := (unhide HK).keeps.size
      clear hmk1
      have HA1 := hide (World.ownsRow.alloc (unhide HM0) (.cells #[.int .u8 (mk : Nat)] 5))
      go_wp2_with (at_builtin; refine wpList_append_marks _ rfl _ _ 28 rfl 5 i0 _ 1 [.int .u8 (mk : Nat)] Tryz.underlying28 hi hz0 hz1 hz2 rfl Nat.one_pos ho _ _ rfl (unhide HA1) ⟨wr.heap.size, 0, none⟩ 1 1 (by decide) rfl ?m1c1 ?m1c2 ?m1c3 ?_)
      case m1c1 => first | exact news1 wr _ _ | exact fun _ _ h => h
      case m1c2 => unfold maxLen; omega
      case m1c3 => omega
      intro v1 w1 hm1 hk1 hg1 hb1
      have HK1 := hide ((unhide HK).mark (by decide) (by decide) (unhide HM0) (unhide HMV) (by first | (simp; done) | (simp; omega)) hm1 hk1 hg1 (by rw [alloc1_s]; exact hb1))
      obtain ⟨p1, cp1, rfl, _⟩ := ownsRow_slice hm1
      have HM1 := hide ((unhide HK1).marks (.slice p k cp, k) (by simp))
      have hsz1 := (unhide HK1).keeps.size
      clear hm1 hk1 hg1 hb1 HA1 HM0 HK
      have HA2 := hide (World.ownsRow.alloc (unhide HM1) (.cells #[.int .u8 (mk : Nat), .int .u8 (mk : Nat)] 5))
      go_wp2_with (at_builtin; refine wpList_append_marks _ rfl _ _ 28 rfl 5 i0 _ 1 [.int .u8 (mk : Nat)] Tryz.underlying28 hi hz0 hz1 hz2 rfl Nat.one_pos ho _ _ rfl (unhide HA2) ⟨w1.heap.size, 0, none⟩ 2 2 (by decide) rfl ?m2c1 ?m2c2 ?m2c3 ?_)
      case m2c1 => first | exact news2 w1 _ _ _ | exact fun _ _ h => h
      case m2c2 => unfold maxLen; omega
      case m2c3 => omega
      intro v2 w2 hm2 hk2 hg2 hb2
      have HK2 := hide ((unhide HK1).mark (by decide) (by decide) (unhide HM1) (unhide HMV) (by first | (simp; done) | (simp; omega)) hm2 hk2 hg2 (by rw [alloc1_s]; exact hb2))
      obtain ⟨p2, cp2, rfl, _⟩ := ownsRow_slice hm2
      have HM2 := hide ((unhide HK2).marks (.slice p k cp, k) (by simp))
      have hsz2 := (unhide HK2).keeps.size
      clear hm2 hk2 hg2 hb2 HA2 HM1 HK1
      have HA3 := hide (World.ownsRow.alloc (unhide HM2) (.cells #[.int .u8 (mk : Nat), .int .u8 (mk : Nat), .int .u8 (mk : Nat)] 5))
      go_wp2_with (at_builtin; refine wpList_append_marks _ rfl _ _ 28 rfl 5 i0 _ 1 [.int .u8 (mk : Nat)] Tryz.underlying28 hi hz0 hz1 hz2 rfl Nat.one_pos ho _ _ rfl (unhide HA3) ⟨w2.heap.size, 0, none⟩ 3 3 (by decide) rfl ?m3c1 ?m3c2 ?m3c3 ?_)
      case m3c1 => first | exact news3 w2 _ _ _ _ | exact fun _ _ h => h
      case m3c2 => unfold maxLen; omega
      case m3c3 => omega
      intro v3 w3 hm3 hk3 hg3 hb3
      have HK3 := hide ((unhide HK2).mark (by decide) (by decide) (unhide HM2) (unhide HMV) (by first | (simp; done) | (simp; omega)) hm3 hk3 hg3 (by rw [alloc1_s]; exact hb3))
      obtain ⟨p3, cp3, rfl, _⟩ := ownsRow_slice hm3
      have HM3 := hide ((unhide HK3).marks (.slice p k cp, k) (by simp))
      have hsz3 := (unhide HK3).keeps.size
      clear hm3 hk3 hg3 hb3 HA3 HM2 HK2
      have d0 := (unhide HK3).head.cell 2 _ rfl
      have HB0 := hide (World.ownsRow.alloc (unhide HK3).row (.cells #[.slice p k cp] 28))
      go_wp2_with (at_builtin; refine wpList_append_own_at _ rfl _ _ 38 rfl 0 28 i1 _ 1 24 Tryz.underlying38 hi1 hy0 hy1 hy2 rfl (by decide) _ _ _ rfl (unhide HB0) ⟨w3.heap.size, 0, none⟩ 1 1 [.slice p k cp] rfl rfl ?p0c1 ?p0c2 ?p0c3 ?p0c4 ?p0c5 ?_)
      case p0c2 => first | rfl | (intro u hu; simp at hu; subst hu; rfl)
      case p0c3 => unfold maxLen; first | omega | (simp; omega)
      case p0c4 => first | omega | (simp; omega)
      intro b0 y0 hown0 hg0 _ hb0
      have hd0 := (unhide HK3).pushHead (by decide) hg0
      have e0 := hd0.cell 2 _ rfl
      have f0 := hd0.fz
      have HP0 : Hid (KInv W1 X wb (y0.setCell ⟨wb, 2, none⟩ b0) #[hs, ss, b0, fs, ls, is] 5 28 b0 (ents ++ [.slice p k cp]) [.int .u8 (mk : Nat)] _) := (unhide HK3).push hX (by decide) (by decide) (by decide) (by simpa using hown0) hg0 hb0 (by omega) 2
      obtain ⟨bp0, bc0, rfl, _⟩ := ownsRow_slice hown0
      have hyz0 : W1.heap.size ≤ y0.heap.size := by have := (unhide HP0).keeps.size; rwa [size_setCell] at this
      clear hown0 hg0 hb0 hd0 d0 HB0 HK3
      have d1 := (unhide HP0).head.cell 2 _ rfl
      have HB1 := hide (World.ownsRow.alloc (unhide HP0).row (.cells #[.slice p1 (k + 1) cp1] 28))
      go_wp2_with (at_builtin; refine wpList_append_own_at _ rfl _ _ 38 rfl 0 28 i1 _ 1 24 Tryz.underlying38 hi1 hy0 hy1 hy2 rfl (by decide) _ _ _ rfl (unhide HB1) ⟨y0.heap.size, 0, none⟩ 1 1 [.slice p1 (k + 1) cp1] rfl rfl ?p1c1 ?p1c2 ?p1c3 ?p1c4 ?p1c5 ?_)
      case p1c1 => have q := news1 (y0.setCell ⟨wb, 2, none⟩ (.slice bp0 (ents.length + 1) bc0)) (.slice p1 (k + 1) cp1) 28; rw [size_setCell] at q; exact q
      case p1c5 => exact Nat.zero_le _
      case p1c2 => first | rfl | (intro u hu; simp at hu; subst hu; rfl)
      case p1c3 => unfold maxLen; first | omega | (simp; omega)
      case p1c4 => first | omega | (simp; omega)
      intro b1 y1 hown1 hg1 _ hb1
      have hd1 := (unhide HP0).pushHead (by decide) hg1
      have e1 := hd1.cell 2 _ rfl
      have f1 := hd1.fz
      have HP1 : Hid (KInv W1 X wb (y1.setCell ⟨wb, 2, none⟩ b1) #[hs, ss, b1, fs, ls, is] 5 28 b1 (ents ++ [.slice p k cp] ++ [.slice p1 (k + 1) cp1]) [.int .u8 (mk : Nat)] _) := (unhide HP0).push hX (by decide) (by decide) (by decide) (by simpa using hown1) hg1 hb1 (by omega) 2
      obtain ⟨bp1, bc1, rfl, _⟩ := ownsRow_slice hown1
      have hyz1 : W1.heap.size ≤ y1.heap.size := by have := (unhide HP1).keeps.size; rwa [size_setCell] at this
      clear hown1 hg1 hb1 hd1 d1 HB1 HP0
      have d2 := (unhide HP1).head.cell 2 _ rfl
      have HB2 := hide (World.ownsRow.alloc (unhide HP1).row (.cells #[.slice p2 (k + 2) cp2] 28))
      go_wp2_with (at_builtin; refine wpList_append_own_at _ rfl _ _ 38 rfl 0 28 i1 _ 1 24 Tryz.underlying38 hi1 hy0 hy1 hy2 rfl (by decide) _ _ _ rfl (unhide HB2) ⟨y1.heap.size, 0, none⟩ 1 1 [.slice p2 (k + 2) cp2] rfl rfl ?p2c1 ?p2c2 ?p2c3 ?p2c4 ?p2c5 ?_)
      case p2c1 => have q := news1 (y1.setCell ⟨wb, 2, none⟩ (.slice bp1 (ents.length + 2) bc1)) (.slice p2 (k + 2) cp2) 28; rw [size_setCell] at q; exact q
      case p2c5 => exact Nat.zero_le _
      case p2c2 => first | rfl | (intro u hu; simp at hu; subst hu; rfl)
      case p2c3 => unfold maxLen; first | omega | (simp; omega)
      case p2c4 => first | omega | (simp; omega)
      intro b2 y2 hown2 hg2 _ hb2
      have hd2 := (unhide HP1).pushHead (by decide) hg2
      have e2 := hd2.cell 2 _ rfl
      have f2 := hd2.fz
      have HP2 : Hid (KInv W1 X wb (y2.setCell ⟨wb, 2, none⟩ b2) #[hs, ss, b2, fs, ls, is] 5 28 b2 (ents ++ [.slice p k cp] ++ [.slice p1 (k + 1) cp1] ++ [.slice p2 (k + 2) cp2]) [.int .u8 (mk : Nat)] _) := (unhide HP1).push hX (by decide) (by decide) (by decide) (by simpa using hown2) hg2 hb2 (by omega) 2
      obtain ⟨bp2, bc2, rfl, _⟩ := ownsRow_slice hown2
      have hyz2 : W1.heap.size ≤ y2.heap.size := by have := (unhide HP2).keeps.size; rwa [size_setCell] at this
      clear hown2 hg2 hb2 hd2 d2 HB2 HP1
      have d3 := (unhide HP2).head.cell 2 _ rfl
      have HB3 := hide (World.ownsRow.alloc (unhide HP2).row (.cells #[.slice p3 (k + 3) cp3] 28))
      go_wp2_with (at_builtin; refine wpList_append_own_at _ rfl _ _ 38 rfl 0 28 i1 _ 1 24 Tryz.underlying38 hi1 hy0 hy1 hy2 rfl (by decide) _ _ _ rfl (unhide HB3) ⟨y2.heap.size, 0, none⟩ 1 1 [.slice p3 (k + 3) cp3] rfl rfl ?p3c1 ?p3c2 ?p3c3 ?p3c4 ?p3c5 ?_)
      case p3c1 => have q := news1 (y2.setCell ⟨wb, 2, none⟩ (.slice bp2 (ents.length + 3) bc2)) (.slice p3 (k + 3) cp3) 28; rw [size_setCell] at q; exact q
      case p3c5 => exact Nat.zero_le _
      case p3c2 => first | rfl | (intro u hu; simp at hu; subst hu; rfl)
      case p3c3 => unfold maxLen; first | omega | (simp; omega)
      case p3c4 => first | omega | (simp; omega)
      intro b3 y3 hown3 hg3 _ hb3
      have hd3 := (unhide HP2).pushHead (by decide) hg3
      have e3 := hd3.cell 2 _ rfl
      have f3 := hd3.fz
      have HP3 : Hid (KInv W1 X wb (y3.setCell ⟨wb, 2, none⟩ b3) #[hs, ss, b3, fs, ls, is] 5 28 b3 (ents ++ [.slice p k cp] ++ [.slice p1 (k + 1) cp1] ++ [.slice p2 (k + 2) cp2] ++ [.slice p3 (k + 3) cp3]) [.int .u8 (mk : Nat)] _) := (unhide HP2).push hX (by decide) (by decide) (by decide) (by simpa using hown3) hg3 hb3 (by omega) 2
      obtain ⟨bp3, bc3, rfl, _⟩ := ownsRow_slice hown3
      have hyz3 : W1.heap.size ≤ y3.heap.size := by have := (unhide HP3).keeps.size; rwa [size_setCell] at this
      clear hown3 hg3 hb3 hd3 d3 HB3 HP2
      go_wp2
      have q := unhide HP3
      simp only [List.append_assoc, List.cons_append, List.nil_append] at q
      go_end0
      exact ⟨rfl, _, _, _, _, q⟩
end Go.Proofs.YtkalonhalhdlaaaGreatDoor
