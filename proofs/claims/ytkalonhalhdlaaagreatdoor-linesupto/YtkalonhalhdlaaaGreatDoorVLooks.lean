/-
  What one call of the book's looks does, with all four kinds of lists.
-/
import Derived.Test.YtkalonhalhdlaaaGreatDoorVBook
namespace Go.Proofs.YtkalonhalhdlaaaGreatDoor
open Go.RowKit

theorem quo4 (k : Nat) : (k : Int).tdiv 4 = ((k / 4 : Nat) : Int) := by
  rw [Int.tdiv_eq_ediv_of_nonneg (by omega)]; omega
theorem quo1024 (k : Nat) : (k : Int).tdiv 1024 = ((k / 1024 : Nat) : Int) := by
  rw [Int.tdiv_eq_ediv_of_nonneg (by omega)]; omega
theorem reps_two (a b : Value) (n q : Nat) (h : q < n) : (reps [a, b] n)[q * 2]? = some a ∧ (reps [a, b] n)[q * 2 + 1]? = some b := by
  induction n generalizing q with
  | zero => omega
  | succ n ih =>
    have e : reps [a, b] (n + 1) = a :: b :: reps [a, b] n := by simp [reps, List.replicate_succ]
    rw [e]
    cases q with
    | zero => simp
    | succ q =>
      have := ih q (by omega)
      rw [show (q + 1) * 2 = q * 2 + 1 + 1 by omega]
      simpa using this

theorem bytes_neq_none (w : World) : (binOp .neq 28 (.slice none 0 0) (.slice none 0 0)).run Tryz.prog w = .ok (.bool false) w := by kernel_rfl

set_option maxHeartbeats 8000000 in
set_option maxRecDepth 1000000 in
theorem looks_bk (wb : Nat) (hs ss : Value) (b : Bk) (w : World) (h : BkAt w wb hs ss b) (hb : b.eb.length ≤ 1099511627776) (hf : b.ef.length ≤ 1099511627776) (hl : b.el.length ≤ 1099511627776) (hi : b.ei.length ≤ 1099511627776) :
    Calls Tryz.prog 13 #[.pointer (some ⟨wb, 2, none⟩)] w fun e w' => e = .returned (.bool true) ∧ w' = w := by
  have c2 := h.head.cell 2 _ rfl
  have c3 := h.head.cell 3 _ rfl
  have c4 := h.head.cell 4 _ rfl
  have c5 := h.head.cell 5 _ rfl
  obtain ⟨bp, bc, e1, hbp⟩ := ownsRow_slice h.rb
  obtain ⟨fp, fc, e2, hfp⟩ := ownsRow_slice h.rf
  obtain ⟨lp, lc, e3, hlp⟩ := ownsRow_slice h.rl
  obtain ⟨ip, ic, e4, hip⟩ := ownsRow_slice h.ri
  rw [e1] at c2
  rw [e2] at c3
  rw [e3] at c4
  rw [e4] at c5
  have HRB := hide (e1 ▸ h.rb)
  have HRF := hide (e2 ▸ h.rf)
  have HRL := hide (e3 ▸ h.rl)
  have HRI := hide (e4 ▸ h.ri)
  have HMB := hide h.mb
  have HMF := hide h.mf
  have HML := hide h.ml
  have HMI := hide h.mi
  have HT := hide h.two
  have HMK := fun i hi => mark_any i w hi
  clear h e1 e2 e3 e4
  generalize b.eb = eb at *
  generalize b.ef = ef at *
  generalize b.el = el at *
  generalize b.ei = ei at *
  go_enter Tryz.func13, Tryz.ntmps13
  go_wp2_with fail
  go_loop [3] (fun i => ∃ k : Nat, k ≤ eb.length ∧ i = .int .i64 k) (fun i => eb.length - (intOf i).toNat)
  case atStart => exact ⟨0, Nat.zero_le _, rfl⟩
  case round =>
    obtain ⟨k, hk, rfl⟩ := hrel
    by_cases hlt : k < eb.length
    · obtain ⟨g, rfl⟩ := hbp (by omega)
      obtain ⟨v, hv⟩ : ∃ v, eb[k]? = some v := ⟨_, List.getElem?_eq_getElem hlt⟩
      obtain ⟨n, hmk, hn⟩ := unhide HMB k v hv
      have cE := (unhide HRB).cellAt k (by omega)
      rw [hv] at cE
      obtain ⟨p, cp, rfl, hpg⟩ := ownsRow_slice hmk
      have HK := hide hmk
      clear hmk
      have hmk := HMK k (by unfold maxLen; omega)
      generalize hmkN : markN k = mk at hmk HK
      go_wp2_with fail
      refine hmk.mono ?_
      rintro e W1 ⟨rfl, rfl⟩
      go_wp2
      go_loop [5] (fun j => ∃ q : Nat, q ≤ n ∧ j = .int .i64 q) (fun j => n - (intOf j).toNat)
      case atStart => exact ⟨0, Nat.zero_le _, rfl⟩
      case round =>
        obtain ⟨q, hq, rfl⟩ := hrel
        by_cases hlq : q < n
        · obtain ⟨g2, rfl⟩ := hpg (by omega)
          have cU := World.ownsRow.cellAt (unhide HK) q (by simp; omega)
          have e2 : (reps [Value.int .u8 (mk : Nat)] n)[q]? = some (.int .u8 (mk : Nat)) := by simp [reps, hlq]
          rw [e2] at cU
          go_wp2
          go_round
          case rel => exact ⟨q + 1, hlq, by go_num⟩
          case measure => simp [intOf]; omega
        · have hqn : q = n := by omega
          subst hqn
          go_wp2
          go_round
          case rel => exact ⟨k + 1, hlt, by go_num⟩
          case measure => simp [intOf]; omega
    · have hkn : k = eb.length := by omega
      subst hkn
      clear HRB HMB HMK hbp
      go_wp2
      go_loop [6] (fun i => ∃ k : Nat, k ≤ ei.length ∧ i = .int .i64 k) (fun i => ei.length - (intOf i).toNat)
      case atStart => exact ⟨0, Nat.zero_le _, rfl⟩
      case round =>
        obtain ⟨k, hk, rfl⟩ := hrel
        by_cases hlt : k < ei.length
        · obtain ⟨g, rfl⟩ := hip (by omega)
          obtain ⟨v, hv⟩ : ∃ v, ei[k]? = some v := ⟨_, List.getElem?_eq_getElem hlt⟩
          obtain ⟨n, hmk, hn⟩ := unhide HMI k v hv
          have cE := (unhide HRI).cellAt k (by omega)
          rw [hv] at cE
          obtain ⟨p, cp, rfl, hpg⟩ := ownsRow_slice hmk
          have HK := hide hmk
          clear hmk
          have hq4 := quo4 k
          go_wp2
          go_loop [7] (fun j => ∃ q : Nat, q ≤ n ∧ j = .int .i64 q) (fun j => n - (intOf j).toNat)
          case atStart => exact ⟨0, Nat.zero_le _, rfl⟩
          case round =>
            obtain ⟨q, hq, rfl⟩ := hrel
            by_cases hlq : q < n
            · obtain ⟨g2, rfl⟩ := hpg (by omega)
              have cU := World.ownsRow.cellAt (unhide HK) q (by simp [mkI]; omega)
              have e2 : (reps (mkI k) n)[q]? = some (.int .i64 (-1000 - (k : Int) / 4)) := by simp [reps, hlq, mkI]
              rw [e2] at cU
              go_wp2
              go_round
              case rel => exact ⟨q + 1, hlq, by go_num⟩
              case measure => simp [intOf]; omega
            · have hqn : q = n := by omega
              subst hqn
              go_wp2
              go_round
              case rel => exact ⟨k + 1, hlt, by go_num⟩
              case measure => simp [intOf]; omega
        · have hkn : k = ei.length := by omega
          subst hkn
          clear HRI HMI hip
          go_wp2
          go_loop [8] (fun i => ∃ k : Nat, k ≤ ef.length ∧ i = .int .i64 k) (fun i => ef.length - (intOf i).toNat)
          case atStart => exact ⟨0, Nat.zero_le _, rfl⟩
          case round =>
            obtain ⟨k, hk, rfl⟩ := hrel
            by_cases hlt : k < ef.length
            · obtain ⟨g, rfl⟩ := hfp (by omega)
              obtain ⟨v, hv⟩ : ∃ v, ef[k]? = some v := ⟨_, List.getElem?_eq_getElem hlt⟩
              obtain ⟨n, hmk, hn⟩ := unhide HMF k v hv
              have cE := (unhide HRF).cellAt k (by omega)
              rw [hv] at cE
              obtain ⟨p, cp, rfl, hpg⟩ := ownsRow_slice hmk
              have HK := hide hmk
              clear hmk
              have hq4 := quo4 k
              go_wp2
              go_loop [9] (fun j => ∃ q : Nat, q ≤ n ∧ j = .int .i64 q) (fun j => n - (intOf j).toNat)
              case atStart => exact ⟨0, Nat.zero_le _, rfl⟩
              case round =>
                obtain ⟨q, hq, rfl⟩ := hrel
                by_cases hlq : q < n
                · obtain ⟨g2, rfl⟩ := hpg (by omega)
                  have e2 := reps_two (.int .i64 (-1000 - (k : Int) / 4)) (.slice none 0 0) n q hlq
                  have cU := World.ownsRow.cells (unhide HK) (g := g2) rfl (q * 2) _ e2.1
                  have cV := World.ownsRow.cells (unhide HK) (g := g2) rfl (q * 2 + 1) _ e2.2
                  rw [Go.WideShapes.add_plain, Nat.zero_add] at cU cV
                  clear e2
                  have hnn := bytes_neq_none w
                  go_wp2
                  go_round
                  case rel => exact ⟨q + 1, hlq, by go_num⟩
                  case measure => simp [intOf]; omega
                · have hqn : q = n := by omega
                  subst hqn
                  go_wp2
                  go_round
                  case rel => exact ⟨k + 1, hlt, by go_num⟩
                  case measure => simp [intOf]; omega
            · have hkn : k = ef.length := by omega
              subst hkn
              clear HRF HMF hfp
              go_wp2
              go_loop [10] (fun i => ∃ k : Nat, k ≤ el.length ∧ i = .int .i64 k) (fun i => el.length - (intOf i).toNat)
              case atStart => exact ⟨0, Nat.zero_le _, rfl⟩
              case round =>
                obtain ⟨k, hk, rfl⟩ := hrel
                by_cases hlt : k < el.length
                · obtain ⟨g, rfl⟩ := hlp (by omega)
                  obtain ⟨v, hv⟩ : ∃ v, el[k]? = some v := ⟨_, List.getElem?_eq_getElem hlt⟩
                  obtain ⟨n, hmk, hn⟩ := unhide HML k v hv
                  have cE := (unhide HRL).cellAt k (by omega)
                  rw [hv] at cE
                  obtain ⟨p, cp, rfl, hpg⟩ := ownsRow_slice hmk
                  have HK := hide hmk
                  clear hmk
                  have hT := unhide HT k hlt
                  unfold TwoAt at hT
                  have t0 : w.cell? ⟨b.mg k, 0, none⟩ = some (.int .u8 ((k / 4 % 256 : Nat) : Int)) := by rw [Lib.cell_of_heap hT]; rfl
                  have t1 : w.cell? ⟨b.mg k, 1, none⟩ = some (.int .u8 ((k / 1024 % 256 : Nat) : Int)) := by rw [Lib.cell_of_heap hT]; rfl
                  clear hT
                  generalize hgm : b.mg k = gm at *
                  have hq4 := quo4 k
                  have hq5 := quo1024 k
                  go_wp2
                  go_loop [11] (fun j => ∃ q : Nat, q ≤ n ∧ j = .int .i64 q) (fun j => n - (intOf j).toNat)
                  case atStart => exact ⟨0, Nat.zero_le _, rfl⟩
                  case round =>
                    obtain ⟨q, hq, rfl⟩ := hrel
                    by_cases hlq : q < n
                    · obtain ⟨g2, rfl⟩ := hpg (by omega)
                      have cU := World.ownsRow.cellAt (unhide HK) q (by simp [mkL]; omega)
                      have e2 : (reps (mkL gm) n)[q]? = some (.slice (some ⟨gm, 0, none⟩) 2 2) := by simp [reps, hlq, mkL]
                      rw [e2] at cU
                      go_wp2
                      go_round
                      case rel => exact ⟨q + 1, hlq, by go_num⟩
                      case measure => simp [intOf]; omega
                    · have hqn : q = n := by omega
                      subst hqn
                      go_wp2
                      go_round
                      case rel => exact ⟨k + 1, hlt, by go_num⟩
                      case measure => simp [intOf]; omega
                · have hkn : k = el.length := by omega
                  subst hkn
                  go_wp2
                  exact bodyPost_ret (v := .bool true) (by simp [results, Tryz.results13, go_sem]) rfl ⟨rfl, rfl⟩
end Go.Proofs.YtkalonhalhdlaaaGreatDoor
