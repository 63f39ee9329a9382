/-
  What one call of played does, whatever holds from step to step.
-/
import Derived.Test.YtkalonhalhdlaaaGreatDoorG14
import Derived.Deep.LoopGhost
import Derived.Deep.Cut
import Derived.Deep.CutRange
namespace Go.Proofs.YtkalonhalhdlaaaGreatDoor
open Go.RowKit
theorem opCells_len (o : OpV) : (opCells o).length = 18 := rfl
theorem opsCells_get : ∀ (os : List OpV) (r : Nat) (o : OpV) (k : Nat), os[r]? = some o → k < 18 → (opsCells os)[r * 18 + k]? = (opCells o)[k]? := by
  intro os
  induction os with
  | nil => intro r o k h; simp at h
  | cons p ps ih =>
    intro r o k h hk
    have e : opsCells (p :: ps) = opCells p ++ opsCells ps := rfl
    rw [e]
    cases r with
    | zero =>
      simp at h
      subst h
      rw [Nat.zero_mul, Nat.zero_add, List.getElem?_append_left (by rw [opCells_len]; exact hk)]
    | succ r =>
      have h' : ps[r]? = some o := by simpa using h
      rw [List.getElem?_append_right (by rw [opCells_len]; omega), opCells_len, show (r + 1) * 18 + k - 18 = r * 18 + k by omega]
      exact ih r o k h' hk
theorem OpsAt.op {w : World} {g : Nat} {os : List OpV} (h : OpsAt w g os) {r : Nat} {o : OpV} (hr : os[r]? = some o) (k : Nat) (hk : k < 18) {v : Value} (hv : (opCells o)[k]? = some v) : w.cell? ⟨g, r * 18 + k, none⟩ = some v := h _ v ((opsCells_get os r o k hr hk).trans hv)
theorem OpsAt.below {w w' : World} {g B : Nat} {os : List OpV} (h : OpsAt w g os) (hb : Below B w w') (hg : g < B) : OpsAt w' g os := fun j v hj => by
  rw [hb.cell (p := ⟨g, j, none⟩) hg]
  exact h j v hj
def wZero : Array Value := #[.slice none 0 0, .slice none 0 0, .slice none 0 0, .slice none 0 0, .slice none 0 0, .slice none 0 0]
set_option maxHeartbeats 4000000 in
set_option maxRecDepth 100000 in
theorem played_any {lo hi : Int} {os : List OpV} {g cap B : Nat} {w : World} (hg : g < B) (hops : OpsAt w g os) (hlen : os.length ≤ 140737488355328) (J : Nat → World → Prop)
    (h0 : J 0 (w.alloc (.cells wZero 45))) (hJ : ∀ r W, J r W → Below B w W)
    (hskip : ∀ r W, J r W → J (r + 1) W)
    (hstep : ∀ r W o, os[r]? = some o → lo ≤ o.kind → o.kind ≤ hi → J r W → Calls Tryz.prog 12 #[.pointer (some ⟨w.heap.size, 0, none⟩), opV o] W fun e W' => e = .returned (.bool true) ∧ J (r + 1) W')
    (hlook : ∀ r W, J r W → Calls Tryz.prog 13 #[.pointer (some ⟨w.heap.size, 2, none⟩)] W fun e W' => e = .returned (.bool true) ∧ J r W') :
    Calls Tryz.prog 11 #[.slice (some ⟨g, 0, none⟩) os.length cap, .int .i64 lo, .int .i64 hi] w fun e w' => e = .returned (.bool true) ∧ Below B w w' := by
  unfold wZero at h0
  have H0 := hide h0
  have HJ := hide hJ
  have HSK := hide hskip
  have HST := hide hstep
  have HLK := hide hlook
  have HOP := hide hops
  clear h0 hJ hskip hstep hlook hops
  go_enter Tryz.func11, Tryz.ntmps11
  go_wp2
  go_loopg [8] os.length (fun gg i wr => ∃ r : Nat, r + gg = os.length ∧ i = .int .i64 r ∧ J r wr)
  case atStart => exact ⟨0, by omega, rfl, unhide H0⟩
  case round =>
    obtain ⟨r, hrk, rfl, hj⟩ := hrel
    clear H0
    by_cases hr : r < os.length
    · have hri : (r : Int) < (os.length : Int) := by omega
      have hr2 : (r : Int) < 144115188075855872 := by omega
      obtain ⟨o, ho⟩ : ∃ o, os[r]? = some o := ⟨os[r], List.getElem?_eq_getElem hr⟩
      have hat := (unhide HOP).below (unhide HJ r wr hj) hg
      have c0 : wr.cell? ⟨g, r * 18, none⟩ = some (.int .i64 o.kind) := hat.op ho 0 (by omega) rfl
      by_cases hin : lo ≤ o.kind ∧ o.kind ≤ hi
      · have c1 : wr.cell? ⟨g, r * 18 + 1, none⟩ = some (.int .i64 o.a) := hat.op ho 1 (by omega) rfl
        have c2 : wr.cell? ⟨g, r * 18 + 2, none⟩ = some (.int .i64 o.b) := hat.op ho 2 (by omega) rfl
        have c3 : wr.cell? ⟨g, r * 18 + 3, none⟩ = some (.int .i64 o.d) := hat.op ho 3 (by omega) rfl
        have c4 : wr.cell? ⟨g, r * 18 + 4, none⟩ = some (.string o.s) := hat.op ho 4 (by omega) rfl
        have c5 : wr.cell? ⟨g, r * 18 + 5, none⟩ = some o.lv := hat.op ho 5 (by omega) rfl
        have c6 : wr.cell? ⟨g, r * 18 + 6, none⟩ = some (.int .i64 o.f.a) := hat.op ho 6 (by omega) rfl
        have c7 : wr.cell? ⟨g, r * 18 + 7, none⟩ = some (.int .i64 o.f.k) := hat.op ho 7 (by omega) rfl
        have c8 : wr.cell? ⟨g, r * 18 + 8, none⟩ = some (.bool o.f.p) := hat.op ho 8 (by omega) rfl
        have c9 : wr.cell? ⟨g, r * 18 + 9, none⟩ = some (.int .i64 o.f.ns) := hat.op ho 9 (by omega) rfl
        have c10 : wr.cell? ⟨g, r * 18 + 10, none⟩ = some (.int .i64 o.f.nr) := hat.op ho 10 (by omega) rfl
        have c11 : wr.cell? ⟨g, r * 18 + 11, none⟩ = some (.slice o.fq o.f.info.length o.fc) := hat.op ho 11 (by omega) rfl
        have c12 : wr.cell? ⟨g, r * 18 + 12, none⟩ = some (.int .i64 o.c0) := hat.op ho 12 (by omega) rfl
        have c13 : wr.cell? ⟨g, r * 18 + 13, none⟩ = some (.int .i64 o.c1) := hat.op ho 13 (by omega) rfl
        have c14 : wr.cell? ⟨g, r * 18 + 14, none⟩ = some (.int .i64 o.c2) := hat.op ho 14 (by omega) rfl
        have c15 : wr.cell? ⟨g, r * 18 + 15, none⟩ = some (.int .i64 o.c3) := hat.op ho 15 (by omega) rfl
        have c16 : wr.cell? ⟨g, r * 18 + 16, none⟩ = some (.int .i64 o.c4) := hat.op ho 16 (by omega) rfl
        have c17 : wr.cell? ⟨g, r * 18 + 17, none⟩ = some (.int .i64 o.c5) := hat.op ho 17 (by omega) rfl
        have ks := unhide HST r wr o ho hin.1 hin.2 hj
        unfold opV at ks
        have i1 : ¬ o.kind < lo := by omega
        have i2 : ¬ hi < o.kind := by omega
        have KS := hide ks
        clear ks hat hj
        go_wp2_with fail
        refine (unhide KS).mono ?_
        rintro e w1 ⟨rfl, j1⟩
        clear KS c0 c1 c2 c3 c4 c5 c6 c7 c8 c9 c10 c11 c12 c13 c14 c15 c16 c17
        have KL := hide (unhide HLK (r + 1) w1 j1)
        clear j1
        go_wp2_with fail
        refine (unhide KL).mono ?_
        rintro e w2 ⟨rfl, j2⟩
        have HR := hide j2
        clear KL j2
        go_wp2
        go_roundg (gk - 1)
        case measure => omega
        case rel => exact ⟨r + 1, by omega, by go_num, unhide HR⟩
      · have HR := hide (unhide HSK r wr hj)
        clear hat hj
        by_cases i1 : o.kind < lo
        · go_wp2
          go_roundg (gk - 1)
          case measure => omega
          case rel => exact ⟨r + 1, by omega, by go_num, unhide HR⟩
        · have i2 : hi < o.kind := by omega
          go_wp2
          go_roundg (gk - 1)
          case measure => omega
          case rel => exact ⟨r + 1, by omega, by go_num, unhide HR⟩
    · have hri : ¬ (r : Int) < (os.length : Int) := by omega
      have HE := hide (unhide HJ r wr hj)
      clear hj
      go_wp2
      go_ret
      exact ⟨rfl, unhide HE⟩
end Go.Proofs.YtkalonhalhdlaaaGreatDoor
