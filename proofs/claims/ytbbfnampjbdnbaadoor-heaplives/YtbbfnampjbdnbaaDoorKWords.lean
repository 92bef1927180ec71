/-
  Contracts of types.classOf, isClass, typeOf, Print and Parse, over six words that the package's variable holds: what the plain functions say, in the same world. Conditions: a type is a byte, the table has at most 32 classes.
-/
import Derived.Test.YtbbfnampjbdnbaaDoorJTZ
namespace Go.Proofs.YtbbfnampjbdnbaaDoor
open Go.RowKit
set_option maxRecDepth 20000

theorem clsOf_any (t : Nat) (w : World) (ht : t < 256) :
    Calls Tryd.prog 91 #[.int .u8 (t : Int)] w fun e w' => e = .returned (.int .i64 ((t : Int) - 16)) ∧ w' = w := by
  go_enter Tryd.func91, Tryd.ntmps91
  go_wp2
  go_ret
  exact ⟨ret_int (by first | rfl | omega), rfl⟩
theorem isCls_yes (ao : Option Addr) (n cap : Nat) (c : Int) (w : World) (h1 : 0 ≤ c) (h2 : c < (n : Int)) :
    Calls Tryd.prog 90 #[.slice ao n cap, .int .i64 c] w fun e w' => e = .returned (.bool true) ∧ w' = w := by
  have h1' : c ≥ 0 := h1
  go_enter Tryd.func90, Tryd.ntmps90
  go_wp2
  go_ret
  exact ⟨rfl, rfl⟩
theorem isCls_no (ao : Option Addr) (n cap : Nat) (c : Int) (w : World) (h : ¬ (0 ≤ c ∧ c < (n : Int))) :
    Calls Tryd.prog 90 #[.slice ao n cap, .int .i64 c] w fun e w' => e = .returned (.bool false) ∧ w' = w := by
  by_cases h1 : 0 ≤ c
  · have h1' : c ≥ 0 := h1
    have h2 : ¬ c < (n : Int) := fun h' => h ⟨h1, h'⟩
    go_enter Tryd.func90, Tryd.ntmps90
    go_wp2
    go_ret
    exact ⟨rfl, rfl⟩
  · have h1' : ¬ c ≥ 0 := h1
    go_enter Tryd.func90, Tryd.ntmps90
    go_wp2
    go_ret
    exact ⟨rfl, rfl⟩
theorem tyOf_any (c : Nat) (w : World) (hc : c < 240) :
    Calls Tryd.prog 83 #[.int .i64 (c : Int)] w fun e w' => e = .returned (.int .u8 ((16 + c : Nat) : Int)) ∧ w' = w := by
  go_enter Tryd.func83, Tryd.ntmps83
  go_wp2
  go_ret
  exact ⟨ret_int (by first | rfl | omega), rfl⟩

/-- The package's words lie there. -/
def WordsAt (W : World) : Prop := ∀ j, j < 6 → W.cell? ⟨0, j, none⟩ = some (.string (wordD j))
theorem WordsAt.below {W w : World} (h : WordsAt W) (hb : Below W.heap.size W w) : WordsAt w := fun j hj =>
  (hb.cell (p := ⟨0, j, none⟩) (World.block_lt_of_cell? W _ (h j hj))).trans (h j hj)

def printD (T : List Cl) (t : Nat) : ByteArray := if t ≤ 5 then wordD t else if 16 ≤ t then (match T[t - 16]? with | some x => x.nm | none => ⟨#[]⟩) else ⟨#[]⟩

/-- The first of some texts that is this one. -/
def findN : List ByteArray → ByteArray → Nat → Option Nat
  | [], _, _ => none
  | x :: l, s, i => if (x.toList == s.toList) = true then some i else findN l s (i + 1)
def parseD (ws : List ByteArray) (T : List Cl) (s : ByteArray) : Nat × Bool :=
  match findN ws s 0 with
  | some i => (i, true)
  | none => match findN (T.map Cl.nm) s 0 with
    | some c => (16 + c, true)
    | none => (0, false)

set_option maxHeartbeats 4000000 in
theorem Parse_six (x0 x1 x2 x3 x4 x5 : ByteArray) (ao : Option Addr) (cap : Nat) (T : List Cl) (s : ByteArray) (w : World) (hT : TabAt w ao T) (hn : T.length ≤ 32)
    (c0 : w.cell? ⟨0, 0, none⟩ = some (.string x0)) (c1 : w.cell? ⟨0, 1, none⟩ = some (.string x1)) (c2 : w.cell? ⟨0, 2, none⟩ = some (.string x2)) (c3 : w.cell? ⟨0, 3, none⟩ = some (.string x3)) (c4 : w.cell? ⟨0, 4, none⟩ = some (.string x4)) (c5 : w.cell? ⟨0, 5, none⟩ = some (.string x5)) :
    Calls Tryd.prog 72 #[.slice ao T.length cap, .string s] w fun e w' => e = .returned (.tuple #[.int .u8 ((parseD [x0, x1, x2, x3, x4, x5] T s).1 : Int), .bool (parseD [x0, x1, x2, x3, x4, x5] T s).2]) ∧ w' = w := by
  have HE0 : Hid (findN [x0, x1, x2, x3, x4, x5] s 0 = findN (([x0, x1, x2, x3, x4, x5] : List ByteArray).drop 0) s 0) := hide rfl
  have n0 : ∀ w, (Instr.index 114 (.agg #[.string x0, .string x1, .string x2, .string x3, .string x4, .string x5]) (.int .i64 0)).run Tryd.prog w = .ok (.string x0) w := fun _ => by kernel_rfl
  have n1 : ∀ w, (Instr.index 114 (.agg #[.string x0, .string x1, .string x2, .string x3, .string x4, .string x5]) (.int .i64 1)).run Tryd.prog w = .ok (.string x1) w := fun _ => by kernel_rfl
  have n2 : ∀ w, (Instr.index 114 (.agg #[.string x0, .string x1, .string x2, .string x3, .string x4, .string x5]) (.int .i64 2)).run Tryd.prog w = .ok (.string x2) w := fun _ => by kernel_rfl
  have n3 : ∀ w, (Instr.index 114 (.agg #[.string x0, .string x1, .string x2, .string x3, .string x4, .string x5]) (.int .i64 3)).run Tryd.prog w = .ok (.string x3) w := fun _ => by kernel_rfl
  have n4 : ∀ w, (Instr.index 114 (.agg #[.string x0, .string x1, .string x2, .string x3, .string x4, .string x5]) (.int .i64 4)).run Tryd.prog w = .ok (.string x4) w := fun _ => by kernel_rfl
  have n5 : ∀ w, (Instr.index 114 (.agg #[.string x0, .string x1, .string x2, .string x3, .string x4, .string x5]) (.int .i64 5)).run Tryd.prog w = .ok (.string x5) w := fun _ => by kernel_rfl
  have HT := hide hT
  clear hT
  go_enter Tryd.func72, Tryd.ntmps72
  go_wp2
  go_loopw [10] (fun i wr => (∃ k : Nat, k ≤ 6 ∧ i = .int .i64 (k : Int) ∧ Hid (findN [x0, x1, x2, x3, x4, x5] s 0 = findN (([x0, x1, x2, x3, x4, x5] : List ByteArray).drop k) s k)) ∧ wr = w) (fun i _ => 6 - (intOf i).toNat)
  case atStart => exact ⟨⟨0, by omega, rfl, HE0⟩, rfl⟩
  case round =>
    clear HE0
    obtain ⟨⟨k, hk, rfl, HE⟩, rfl⟩ := hrel
    by_cases hlt : k < 6
    · rcases (show k = 0 ∨ k = 1 ∨ k = 2 ∨ k = 3 ∨ k = 4 ∨ k = 5 by omega) with rfl | rfl | rfl | rfl | rfl | rfl
      · have HS : Hid (findN [x0, x1, x2, x3, x4, x5] s 0 = if (x0.toList == s.toList) = true then some 0 else findN [x1, x2, x3, x4, x5] s 1) := HE
        by_cases hb : (x0.toList == s.toList) = true
        · have HR : Hid (parseD [x0, x1, x2, x3, x4, x5] T s = (0, true)) := hide (by unfold parseD; rw [unhide HS, if_pos hb])
          clear HE HS hk hlt
          go_wp2
          go_ret2
          exact ⟨by rw [unhide HR]; rfl, rfl⟩
        · have HE2 : Hid (findN [x0, x1, x2, x3, x4, x5] s 0 = findN (([x0, x1, x2, x3, x4, x5] : List ByteArray).drop 1) s 1) := hide (by rw [unhide HS, if_neg hb]; rfl)
          have hb' : (x0.toList == s.toList) = false := by simpa using hb
          clear HE HS hb hk hlt
          go_wp2
          go_roundw
          case rel => exact ⟨⟨1, by omega, rfl, HE2⟩, by trivial⟩
          case measure => simp [intOf]
      · have HS : Hid (findN [x0, x1, x2, x3, x4, x5] s 0 = if (x1.toList == s.toList) = true then some 1 else findN [x2, x3, x4, x5] s 2) := HE
        by_cases hb : (x1.toList == s.toList) = true
        · have HR : Hid (parseD [x0, x1, x2, x3, x4, x5] T s = (1, true)) := hide (by unfold parseD; rw [unhide HS, if_pos hb])
          clear HE HS hk hlt
          go_wp2
          go_ret2
          exact ⟨by rw [unhide HR]; rfl, rfl⟩
        · have HE2 : Hid (findN [x0, x1, x2, x3, x4, x5] s 0 = findN (([x0, x1, x2, x3, x4, x5] : List ByteArray).drop 2) s 2) := hide (by rw [unhide HS, if_neg hb]; rfl)
          have hb' : (x1.toList == s.toList) = false := by simpa using hb
          clear HE HS hb hk hlt
          go_wp2
          go_roundw
          case rel => exact ⟨⟨2, by omega, rfl, HE2⟩, by trivial⟩
          case measure => simp [intOf]
      · have HS : Hid (findN [x0, x1, x2, x3, x4, x5] s 0 = if (x2.toList == s.toList) = true then some 2 else findN [x3, x4, x5] s 3) := HE
        by_cases hb : (x2.toList == s.toList) = true
        · have HR : Hid (parseD [x0, x1, x2, x3, x4, x5] T s = (2, true)) := hide (by unfold parseD; rw [unhide HS, if_pos hb])
          clear HE HS hk hlt
          go_wp2
          go_ret2
          exact ⟨by rw [unhide HR]; rfl, rfl⟩
        · have HE2 : Hid (findN [x0, x1, x2, x3, x4, x5] s 0 = findN (([x0, x1, x2, x3, x4, x5] : List ByteArray).drop 3) s 3) := hide (by rw [unhide HS, if_neg hb]; rfl)
          have hb' : (x2.toList == s.toList) = false := by simpa using hb
          clear HE HS hb hk hlt
          go_wp2
          go_roundw
          case rel => exact ⟨⟨3, by omega, rfl, HE2⟩, by trivial⟩
          case measure => simp [intOf]
      · have HS : Hid (findN [x0, x1, x2, x3, x4, x5] s 0 = if (x3.toList == s.toList) = true then some 3 else findN [x4, x5] s 4) := HE
        by_cases hb : (x3.toList == s.toList) = true
        · have HR : Hid (parseD [x0, x1, x2, x3, x4, x5] T s = (3, true)) := hide (by unfold parseD; rw [unhide HS, if_pos hb])
          clear HE HS hk hlt
          go_wp2
          go_ret2
          exact ⟨by rw [unhide HR]; rfl, rfl⟩
        · have HE2 : Hid (findN [x0, x1, x2, x3, x4, x5] s 0 = findN (([x0, x1, x2, x3, x4, x5] : List ByteArray).drop 4) s 4) := hide (by rw [unhide HS, if_neg hb]; rfl)
          have hb' : (x3.toList == s.toList) = false := by simpa using hb
          clear HE HS hb hk hlt
          go_wp2
          go_roundw
          case rel => exact ⟨⟨4, by omega, rfl, HE2⟩, by trivial⟩
          case measure => simp [intOf]
      · have HS : Hid (findN [x0, x1, x2, x3, x4, x5] s 0 = if (x4.toList == s.toList) = true then some 4 else findN [x5] s 5) := HE
        by_cases hb : (x4.toList == s.toList) = true
        · have HR : Hid (parseD [x0, x1, x2, x3, x4, x5] T s = (4, true)) := hide (by unfold parseD; rw [unhide HS, if_pos hb])
          clear HE HS hk hlt
          go_wp2
          go_ret2
          exact ⟨by rw [unhide HR]; rfl, rfl⟩
        · have HE2 : Hid (findN [x0, x1, x2, x3, x4, x5] s 0 = findN (([x0, x1, x2, x3, x4, x5] : List ByteArray).drop 5) s 5) := hide (by rw [unhide HS, if_neg hb]; rfl)
          have hb' : (x4.toList == s.toList) = false := by simpa using hb
          clear HE HS hb hk hlt
          go_wp2
          go_roundw
          case rel => exact ⟨⟨5, by omega, rfl, HE2⟩, by trivial⟩
          case measure => simp [intOf]
      · have HS : Hid (findN [x0, x1, x2, x3, x4, x5] s 0 = if (x5.toList == s.toList) = true then some 5 else findN [] s 6) := HE
        by_cases hb : (x5.toList == s.toList) = true
        · have HR : Hid (parseD [x0, x1, x2, x3, x4, x5] T s = (5, true)) := hide (by unfold parseD; rw [unhide HS, if_pos hb])
          clear HE HS hk hlt
          go_wp2
          go_ret2
          exact ⟨by rw [unhide HR]; rfl, rfl⟩
        · have HE2 : Hid (findN [x0, x1, x2, x3, x4, x5] s 0 = findN (([x0, x1, x2, x3, x4, x5] : List ByteArray).drop 6) s 6) := hide (by rw [unhide HS, if_neg hb]; rfl)
          have hb' : (x5.toList == s.toList) = false := by simpa using hb
          clear HE HS hb hk hlt
          go_wp2
          go_roundw
          case rel => exact ⟨⟨6, by omega, rfl, HE2⟩, by trivial⟩
          case measure => simp [intOf]
    · have ek : k = 6 := by omega
      have HN : Hid (findN [x0, x1, x2, x3, x4, x5] s 0 = none) := hide (by rw [unhide HE, ek]; rfl)
      have i1 : ¬ ((k : Nat) : Int) < 6 := by omega
      have HG0 : Hid (findN (T.map Cl.nm) s 0 = findN ((T.map Cl.nm).drop 0) s 0) := hide rfl
      clear ek HE c0 c1 c2 c3 c4 c5
      go_wp2
      go_loopw [22] (fun i wq => (∃ k : Nat, k ≤ T.length ∧ i = .int .i64 (k : Int) ∧ Hid (findN (T.map Cl.nm) s 0 = findN ((T.map Cl.nm).drop k) s k)) ∧ wq = wr) (fun i _ => T.length - (intOf i).toNat)
      case atStart => exact ⟨⟨0, by omega, rfl, HG0⟩, rfl⟩
      case round =>
        clear HG0
        obtain ⟨⟨k, hk, rfl, HG⟩, rfl⟩ := hrel
        by_cases hlt : k < T.length
        · have j1 : ((k : Nat) : Int) < ((T.length : Nat) : Int) := by omega
          obtain ⟨b, off, rfl, hx⟩ := unhide HT k _ (List.getElem?_eq_getElem hlt)
          have d := hx.c0
          have HS : Hid (findN ((T.map Cl.nm).drop k) s k = if (T[k].nm.toList == s.toList) = true then some k else findN ((T.map Cl.nm).drop (k + 1)) s (k + 1)) := hide (by rw [List.drop_eq_getElem_cons (by simpa using hlt), findN]; simp)
          rw [unhide HS] at HG
          generalize T[k].nm = z at d HG
          clear hx HS
          by_cases hb : (z.toList == s.toList) = true
          · have HR : Hid (parseD [x0, x1, x2, x3, x4, x5] T s = (16 + k, true)) := hide (by unfold parseD; rw [unhide HN]; simp only; rw [unhide HG, if_pos hb])
            go_wp2_with fail
            refine (tyOf_any k _ (by omega)).mono ?_
            rintro e w2 ⟨rfl, rfl⟩
            go_wp2
            go_ret2
            exact ⟨by rw [unhide HR]; rfl, rfl⟩
          · rw [if_neg hb] at HG
            have hb' : (z.toList == s.toList) = false := by simpa using hb
            clear hb
            go_wp2
            go_roundw
            case rel => exact ⟨⟨k + 1, by omega, by go_num, HG⟩, by trivial⟩
            case measure => simp [intOf]; omega
        · have j1 : ¬ ((k : Nat) : Int) < ((T.length : Nat) : Int) := by omega
          have HR : Hid (parseD [x0, x1, x2, x3, x4, x5] T s = (0, false)) := hide (by
            unfold parseD
            rw [unhide HN]
            simp only
            rw [unhide HG, List.drop_eq_nil_of_le (by simp; omega)]
            rfl)
          go_wp2
          go_ret2
          exact ⟨by rw [unhide HR]; rfl, rfl⟩
end Go.Proofs.YtbbfnampjbdnbaaDoor
