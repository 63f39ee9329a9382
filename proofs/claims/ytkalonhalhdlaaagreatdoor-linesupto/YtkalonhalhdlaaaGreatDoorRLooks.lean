/-
  What one call of the book's looks does, where each list holds its mark alone.
-/
import Derived.Test.YtkalonhalhdlaaaGreatDoorRKeeps
namespace Go.Proofs.YtkalonhalhdlaaaGreatDoor
open Go.RowKit

set_option maxHeartbeats 4000000 in
set_option maxRecDepth 1000000 in
theorem looks_any (wb : Nat) (hs ss bs : Value) (ents : List Value) (w : World) (hW : WAt w wb #[hs, ss, bs, .slice none 0 0, .slice none 0 0, .slice none 0 0])
    (hrow : w.ownsRow 0 28 1 bs ents.length ents) (hm : ∀ i v, ents[i]? = some v → ∃ k, MarksK w 5 [.int .u8 (markN i : Nat)] v k ∧ k ≤ 1099511627776) (hN : ents.length ≤ 1099511627776) :
    Calls Tryz.prog 13 #[.pointer (some ⟨wb, 2, none⟩)] w fun e w' => e = .returned (.bool true) ∧ w' = w := by
  have c2 := hW.cell 2 _ rfl
  have c3 := hW.cell 3 _ rfl
  have c4 := hW.cell 4 _ rfl
  have c5 := hW.cell 5 _ rfl
  obtain ⟨bp, bc, rfl, hbp⟩ := ownsRow_slice hrow
  have HMK := fun i hi => mark_any i w hi
  have HR := hide hrow
  have HM := hide hm
  clear hrow hm hW
  go_enter Tryz.func13, Tryz.ntmps13
  go_wp2_with fail
  go_loop [3] (fun i => ∃ k : Nat, k ≤ ents.length ∧ i = .int .i64 k) (fun i => ents.length - (intOf i).toNat)
  case atStart => exact ⟨0, Nat.zero_le _, rfl⟩
  case round =>
    obtain ⟨k, hk, rfl⟩ := hrel
    by_cases hlt : k < ents.length
    · obtain ⟨g, rfl⟩ := hbp (by omega)
      obtain ⟨v, hv⟩ : ∃ v, ents[k]? = some v := ⟨_, List.getElem?_eq_getElem hlt⟩
      obtain ⟨n, hmk, hn⟩ := unhide HM k v hv
      have cE := (unhide HR).cellAt k (by omega)
      rw [hv] at cE
      obtain ⟨p, cp, rfl, hpg⟩ := ownsRow_slice hmk
      have HK := hide hmk
      clear hmk
      have hmk := HMK k (by unfold maxLen; omega)
      generalize hmkN : markN k = mk at hmk HK
      go_wp2_with fail
      refine hmk.mono ?_
      rintro e W1 ⟨rfl, rfl⟩
      go_wp2
      go_loop [5] (fun j => ∃ q : Nat, q ≤ n ∧ j = .int .i64 q) (fun j => n - (intOf j).toNat)
      case atStart => exact ⟨0, Nat.zero_le _, rfl⟩
      case round =>
        obtain ⟨q, hq, rfl⟩ := hrel
        by_cases hlq : q < n
        · obtain ⟨g2, rfl⟩ := hpg (by omega)
          have cU := World.ownsRow.cellAt (unhide HK) q (by simp; omega)
          have e2 : (reps [Value.int .u8 (mk : Nat)] n)[q]? = some (.int .u8 (mk : Nat)) := by simp [reps, hlq]
          rw [e2] at cU
          go_wp2
          go_round
          case rel => exact ⟨q + 1, hlq, by go_num⟩
          case measure => simp [intOf]; omega
        · have hqn : q = n := by omega
          subst hqn
          go_wp2
          go_round
          case rel => exact ⟨k + 1, hlt, by go_num⟩
          case measure => simp [intOf]; omega
    · have hkn : k = ents.length := by omega
      subst hkn
      go_wp2
      go_loop [6] (fun i => i = .int .i64 0) (fun _ => 0)
      case atStart => rfl
      case round =>
        subst hrel
        go_wp2
        go_loop [8] (fun i => i = .int .i64 0) (fun _ => 0)
        case atStart => rfl
        case round =>
          subst hrel
          go_wp2
          go_loop [10] (fun i => i = .int .i64 0) (fun _ => 0)
          case atStart => rfl
          case round =>
            subst hrel
            go_wp2
            exact bodyPost_ret (v := .bool true) (by simp [results, Tryz.results13, go_sem]) rfl ⟨rfl, rfl⟩
end Go.Proofs.YtkalonhalhdlaaaGreatDoor
