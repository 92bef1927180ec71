/-
  Texts of contracts and plain lemmas, one behind another; each says at its head what it holds.
-/
import Derived.Test.YthdgbdjagjagpaaGreatDoorWd2
import Derived.Test.YthdgbdjagjagpaaGreatDoorJn
import Derived.Test.YthdgbdjagjagpaaGreatDoorLayItoa
import Derived.Lib.AppendIntMem
import Derived.Lib.ItoaLen
import Derived.Test.YthdgbdjagjagpaaGreatDoorIn3
import Derived.Laws.AppendOwnNone
import Derived.Deep.Cut
import Derived.Test.YthdgbdjagjagpaaGreatDoorBx1
import Derived.Test.YthdgbdjagjagpaaGreatDoorSc1
import Derived.Test.YthdgbdjagjagpaaGreatDoorLayBS
import Derived.Shelf.Strings.BuilderK
import Derived.Shelf.Slices.Empties
import Derived.Deep.DeepCutAuto
/-
  Pieces of code as text: strconv.Itoa, asm's label and operands, the document's Operands. Conditions: the tables are laid.
-/
namespace Go.Proofs.YthdgbdjagjagpaaGreatDoor
open Go.RowKit
set_option maxRecDepth 20000
set_option linter.unusedVariables false

def PwT (w : World) : Prop := Lib.TabIs Tryz.prog w "internal/strconv.uint64pow10" .u64 Lib.pow10Tab
theorem PwT.below {w w' : World} (h : PwT w) (hb : Below w.heap.size w w') : PwT w' := Lib.tabBelow_of_tabIs h w' hb
theorem below_growT (w : World) (k : Nat) (os : Array Obj) : Below w.heap.size w (Go.Sort.grow (w.drewN k) os) :=
  ⟨rfl, rfl, rfl, by show w.heap.size ≤ (w.heap ++ os).size; simp, fun i hi => by show (w.heap ++ os)[i]? = w.heap[i]?; rw [Array.getElem?_append_left hi]⟩
/-- A text as a value. -/
abbrev tx (l : List UInt8) : Value := .string ⟨l.toArray⟩
theorem ba_app (a b : List UInt8) : ((⟨a.toArray⟩ : ByteArray) ++ (⟨b.toArray⟩ : ByteArray)) = ⟨(a ++ b).toArray⟩ := by
  apply ByteArray.ext
  simp [ByteArray.data_append]
theorem Itoa_any (n : Int) (h0 : -9223372036854775808 ≤ n) (h1 : n ≤ 9223372036854775807) (w : World) (hP : PwT w) :
    Calls Tryz.prog 38 #[.int .i64 n] w fun e w' => e = .returned (tx (Lib.itoa n)) ∧ Below w.heap.size w w' :=
  (Any.strconv_Itoa Tryz.laysItoa n h0 h1 w hP).mono (fun e w' ⟨h, k, os, hw⟩ => ⟨h, by rw [hw]; exact below_growT w k os⟩)
theorem itoa_len (n : Int) (h0 : -9223372036854775808 ≤ n) (h1 : n ≤ 9223372036854775807) : (Lib.itoa n).length ≤ 21 := Lib.itoa_length_le n h0 h1
theorem ret_tx {a : ByteArray} {l : List UInt8} (h : a = ⟨l.toArray⟩) : Ending.returned (.string a) = .returned (tx l) := by rw [h]
/-- A label's name. -/
def labL (a : Int) : List UInt8 := 108 :: Lib.itoa a
theorem label_any (a : Int) (h0 : -9223372036854775808 ≤ a) (h1 : a ≤ 9223372036854775807) (w : World) (hP : PwT w) :
    Calls Tryz.prog 30 #[.int .i64 a] w fun e w' => e = .returned (tx (labL a)) ∧ Below w.heap.size w w' := by
  have HI := hide (Itoa_any a h0 h1 w hP)
  clear hP
  go_enter Tryz.func30, Tryz.ntmps30
  go_wp2_with fail
  refine (unhide HI).mono ?_
  rintro e W ⟨rfl, hb⟩
  have HB := hide hb
  have hl := itoa_len a h0 h1
  have hll : ¬ 9223372036854775807 < 1 + (Lib.itoa a).length := by omega
  clear hb HI hl
  go_wp2
  go_ret
  exact ⟨ret_tx (ba_app [108] (Lib.itoa a)), unhide HB⟩
/-- How many operands there are. -/
def opnN (op : Nat) : Nat := if op = 24 ∨ op = 25 then 2 else if 1 < sizeD op then 1 else 0
theorem operands_any (op : Nat) (w : World) (hW : WidAt w) (ho : op < 256) : Calls Tryz.prog 47 #[.int .u8 (op : Int)] w fun e w' => e = .returned (.int .i64 (opnN op : Int)) ∧ ∃ k, w' = w.drewN k := by
  by_cases h1 : op = 24
  · subst h1
    go_enter Tryz.func47, Tryz.ntmps47
    go_wp2
    go_ret
    exact ⟨rfl, 0, rfl⟩
  by_cases h2 : op = 25
  · subst h2
    go_enter Tryz.func47, Tryz.ntmps47
    go_wp2
    go_ret
    exact ⟨rfl, 0, rfl⟩
  have t1 : ((op : Int) == 24) = false := beq_f (by omega)
  have t2 : ((op : Int) == 25) = false := beq_f (by omega)
  have HS := hide (Size_any op w hW ho)
  by_cases h3 : 1 < sizeD op
  · have HR : Hid (opnN op = 1) := hide (by unfold opnN; rw [if_neg (by omega), if_pos h3])
    have i1 : (sizeD op : Int) > 1 := by omega
    rw [unhide HR]
    clear hW h1 h2 h3
    go_enter Tryz.func47, Tryz.ntmps47
    go_wp2_with fail
    refine (unhide HS).mono ?_
    rintro e W ⟨rfl, k, hw⟩
    go_wp2
    go_ret
    exact ⟨rfl, k, rfl⟩
  · have HR : Hid (opnN op = 0) := hide (by unfold opnN; rw [if_neg (by omega), if_neg h3])
    have i1 : ¬ (sizeD op : Int) > 1 := by omega
    rw [unhide HR]
    clear hW h1 h2 h3
    go_enter Tryz.func47, Tryz.ntmps47
    go_wp2_with fail
    refine (unhide HS).mono ?_
    rintro e W ⟨rfl, k, hw⟩
    go_wp2
    go_ret
    exact ⟨rfl, k, rfl⟩
theorem refOperands_any (op : Nat) (w : World) (ho : op < 256) : Calls Tryz.prog 40 #[.int .u8 (op : Int)] w fun e w' => e = .returned (.int .i64 (opnN op : Int)) ∧ w' = w := by
  by_cases h1 : op = 24
  · subst h1
    go_enter Tryz.func40, Tryz.ntmps40
    go_wp2
    go_ret
    exact ⟨rfl, rfl⟩
  by_cases h2 : op = 25
  · subst h2
    go_enter Tryz.func40, Tryz.ntmps40
    go_wp2
    go_ret
    exact ⟨rfl, rfl⟩
  have t1 : ((op : Int) == 24) = false := beq_f (by omega)
  have t2 : ((op : Int) == 25) = false := beq_f (by omega)
  have HS := hide (refSize_any op w)
  by_cases h3 : 1 < sizeD op
  · have HR : Hid (opnN op = 1) := hide (by unfold opnN; rw [if_neg (by omega), if_pos h3])
    have i1 : (sizeD op : Int) > 1 := by omega
    rw [unhide HR]
    clear h1 h2 h3
    go_enter Tryz.func40, Tryz.ntmps40
    go_wp2_with fail
    refine (unhide HS).mono ?_
    rintro e W ⟨rfl, hw⟩
    go_wp2
    go_ret
    exact ⟨rfl, rfl⟩
  · have HR : Hid (opnN op = 0) := hide (by unfold opnN; rw [if_neg (by omega), if_neg h3])
    have i1 : ¬ (sizeD op : Int) > 1 := by omega
    rw [unhide HR]
    clear h1 h2 h3
    go_enter Tryz.func40, Tryz.ntmps40
    go_wp2_with fail
    refine (unhide HS).mono ?_
    rintro e W ⟨rfl, hw⟩
    go_wp2
    go_ret
    exact ⟨rfl, rfl⟩
end Go.Proofs.YthdgbdjagjagpaaGreatDoor

/-
  asm's instruction: an instruction's words. Conditions: the tables are laid, the operands fit.
-/
namespace Go.Proofs.YthdgbdjagjagpaaGreatDoor
open Go.RowKit
set_option maxRecDepth 20000
set_option linter.unusedVariables false
set_option linter.unusedSimpArgs false

/-- A row of texts of one's own. -/
def OwnL (w : World) (base : Nat) (v : Value) (N : List (List UInt8)) : Prop := w.ownsRow base 9 1 v N.length (N.map tx)
theorem OwnL.atL {w : World} {base : Nat} {v : Value} {N : List (List UInt8)} (h : OwnL w base v N) (hn : 0 < N.length) : ∃ g cap, v = .slice (some ⟨g, 0, none⟩) N.length cap ∧ N.length ≤ cap ∧ g < w.heap.size ∧ ∀ (i : Nat) x, N[i]? = some x → w.cell? ⟨g, i, none⟩ = some (tx x) := by
  rcases h.2 with ⟨h1, h2⟩ | ⟨g, cap, cur, rfl, hb, hh, hn, hm, hsz, ht⟩
  · omega
  · refine ⟨g, cap, rfl, hn, (Array.getElem?_eq_some_iff.1 hh).1, fun i x hx => ?_⟩
    have hi := (List.getElem?_eq_some_iff.1 hx).1
    rw [World.ownsRow.cellAt h i (by omega), List.getElem?_map, hx]
    rfl
theorem OwnL.belowL {w w' : World} {base : Nat} {v : Value} {N : List (List UInt8)} (h : OwnL w base v N) (hb : Below w.heap.size w w') : OwnL w' base v N := by
  refine ⟨h.1, ?_⟩
  rcases h.2 with h1 | ⟨g, cap, cur, hv, hbg, hh, r⟩
  · exact Or.inl h1
  · exact Or.inr ⟨g, cap, cur, hv, hbg, by rw [hb.block g (Array.getElem?_eq_some_iff.1 hh).1]; exact hh, r⟩
theorem OwnL.one (w : World) (B : Nat) (hB : B ≤ w.heap.size) (x : List UInt8) : OwnL (w.alloc (.cells #[tx x] 9)) B (.slice (some ⟨w.heap.size, 0, none⟩) 1 1) [x] :=
  ⟨rfl, Or.inr ⟨w.heap.size, 1, #[tx x], rfl, hB, heap_alloc_new w _, Nat.le_refl _, by unfold maxLen; omega, rfl, rfl⟩⟩
theorem OwnL.ne {w : World} {base g : Nat} {v : Value} {N : List (List UInt8)} {t : TypeId} {cs : Array Value} (h : OwnL w base v N) (hx : Bx w g t cs) (ht : t ≠ 9) : v.ownBlock ≠ some g := by
  intro e
  rcases h.2 with ⟨h1, _⟩ | ⟨g', cap, cur, rfl, _, hh, _⟩
  · rw [h1] at e; cases e
  · injection e with e
    subst e
    have hx : w.heap[g']? = some (.cells cs t (0, 0)) := hx
    rw [hx] at hh
    injection hh with hh
    injection hh with _ hh
    exact ht hh
theorem below_dL (w : World) (n : Nat) : Below w.heap.size w (w.drewN n) := ⟨rfl, rfl, rfl, Nat.le_refl _, fun _ _ => rfl⟩
theorem infoStX : (Tryz.prog.info? 9).map (fun i => (i.zero, i.size, i.bytes)) = some (some (.string ⟨#[]⟩), 1, 16) := by kernel_rfl
theorem cell_newX (w : World) (x : List UInt8) : ∀ (j : Nat) u, [tx x][j]? = some u → (w.alloc (.cells #[tx x] 9)).cell? ((⟨w.heap.size, 0, none⟩ : Addr).add j) = some u := by
  intro j u hu
  match j, hu with
  | 0, hu => injection hu with hu; subst hu; exact (cell_of_row _ _ _ _ _ _ (heap_alloc_new w _)).trans rfl
/-- An instruction's words. -/
def nmL (op : Nat) : List UInt8 := (nmD op).data.toList
def jmpN (op : Nat) : Bool := decide (op = 19) || decide (op = 20)
def insW (op : Nat) (a b : Int) : List (List UInt8) := nmL op :: (if jmpN op then [labL a] else ([Lib.itoa a, Lib.itoa b].take (opnN op)))
theorem nm_tx (op : Nat) : Value.string (nmD op) = tx (nmL op) := by
  unfold nmL
  show _ = Value.string ⟨((nmD op).data.toList).toArray⟩
  rw [Array.toArray_toList]
set_option maxHeartbeats 4000000 in
theorem instruction_any (p : Int) (op : Nat) (a b : Int) (w : World) (ho : op < 256) (ha0 : -9223372036854775808 ≤ a) (ha1 : a ≤ 9223372036854775807) (hb0 : -9223372036854775808 ≤ b) (hb1 : b ≤ 9223372036854775807) (hW : WidAt w) (hC : WordsC w) (hP : PwT w) :
    Calls Tryz.prog 32 #[.agg #[.int .i64 p, .int .u8 (op : Int), .int .i64 a, .int .i64 b]] w fun e w' => ∃ v, e = .returned v ∧ OwnL w' w.heap.size v (insW op a b) ∧ Below w.heap.size w w' := by
  obtain ⟨i0, hi0, hz0, hz1, hz2⟩ := info_parts infoStX
  have al : Below w.heap.size w (w.alloc (.cells #[.int .i64 p, .int .u8 (op : Int), .int .i64 a, .int .i64 b] 72)) := (Below.refl _ _).alloc (Nat.le_refl _) _
  have HI : Hid (IAt (w.alloc (.cells #[.int .i64 p, .int .u8 (op : Int), .int .i64 a, .int .i64 b] 72)) w.heap.size p op a b) := hide (heap_alloc_new w _)
  have HB := hide al
  have HW := hide (hW.below al)
  have HC := hide (hC.below al)
  have HP := hide (hP.below al)
  have HPw := hide hP
  clear al hW hC hP
  go_enter Tryz.func32, Tryz.ntmps32
  go_upto_region 1 with fail
  generalize (w.alloc (.cells #[.int .i64 p, .int .u8 (op : Int), .int .i64 a, .int .i64 b] 72)) = W1 at HI HB HW HC HP ⊢
  obtain ⟨q1, q2, q3⟩ := (unhide HI).c
  have HN := hide (Name_any op W1 (unhide HC) ho)
  go_wp2_with fail
  refine (unhide HN).mono ?_
  rintro e W2 ⟨rfl, hw⟩
  rw [hw, nm_tx]
  clear hw W2 HN
  have al : Below W1.heap.size W1 (W1.alloc (.cells #[tx (nmL op)] 9)) := (Below.refl _ _).alloc (Nat.le_refl _) _
  have HO := hide (OwnL.one W1 w.heap.size (unhide HB).size (nmL op))
  have HI2 := hide ((unhide HI).below al)
  have HB2 := hide ((unhide HB).trans (al.mono (unhide HB).size))
  have HW2 := hide ((unhide HW).below al)
  have HP2 := hide ((unhide HP).below al)
  clear al HI HB HW HC HP q1 q2 q3
  go_upto_region 2 with fail
  generalize (W1.alloc (.cells #[tx (nmL op)] 9)) = W2 at HO HI2 HB2 HW2 HP2 ⊢
  generalize W1.heap.size = g1 at HO ⊢
  obtain ⟨q1, q2, q3⟩ := (unhide HI2).c
  have HJ := hide (Jumps_any op W2)
  go_wp2_with fail
  refine (unhide HJ).mono ?_
  rintro e W3 ⟨rfl, hw⟩
  rw [hw]
  clear hw W3 HJ
  cases hj : jmpN op with
  | true =>
    have hj2 : (decide (op = 19) || decide (op = 20)) = true := hj
    have HR : Hid (insW op a b = [nmL op] ++ [labL a]) := hide (by unfold insW; rw [hj]; rfl)
    have HL := hide (label_any a ha0 ha1 W2 (unhide HP2))
    rw [hj2]
    clear hj hj2
    go_wp2_with fail
    refine (unhide HL).mono ?_
    rintro e W3 ⟨rfl, hb⟩
    have al : Below W3.heap.size W3 (W3.alloc (.cells #[tx (labL a)] 9)) := (Below.refl _ _).alloc (Nat.le_refl _) _
    have HO3 := hide (((unhide HO).belowL hb).belowL al)
    have HB3 := hide (((unhide HB2).trans (hb.mono (unhide HB2).size)).trans (al.mono (Nat.le_trans (unhide HB2).size hb.size)))
    have HON := hide (cell_newX W3 (labL a))
    have hsz : w.heap.size ≤ W3.heap.size := Nat.le_trans (unhide HB2).size hb.size
    clear hb al HL HO HB2 q1 q2 q3
    go_wp2_with (at_builtin; refine wpList_append_own _ rfl _ _ 41 rfl w.heap.size 9 i0 _ 1 16 Tryz.underlying41 hi0 hz0 hz1 hz2 rfl (by decide) _ 1 [tx (nmL op)] rfl (unhide HO3) ⟨W3.heap.size, 0, none⟩ 1 1 [tx (labL a)] rfl rfl (unhide HON) (by simp [Value.oneCell']) ?a3 ?a4 ?a5 ?_)
    case a3 => unfold maxLen; omega
    case a4 => omega
    case a5 => simp; omega
    intro v' w' hO hG _
    have HO4 : Hid (OwnL w' w.heap.size v' (insW op a b)) := hide (by rw [unhide HR]; exact hO)
    have HB4 := hide ((unhide HB3).grown hG (by simp; omega) (fun q e => (World.ownsRow.lt (unhide HO3) q e).1))
    clear hO hG HO3 HB3 HON
    go_wp2
    go_ret
    exact ⟨_, rfl, unhide HO4, unhide HB4⟩
  | false =>
    have hj2 : (decide (op = 19) || decide (op = 20)) = false := hj
    have HR : Hid (insW op a b = [nmL op] ++ ([Lib.itoa a, Lib.itoa b].take (opnN op))) := hide (by unfold insW; rw [hj]; rfl)
    rw [hj2]
    clear hj hj2
    have al : Below W2.heap.size W2 (W2.alloc (.cells #[.int .i64 a, .int .i64 b] 121)) := (Below.refl _ _).alloc (Nat.le_refl _) _
    have HA : Hid (Bx (W2.alloc (.cells #[.int .i64 a, .int .i64 b] 121)) W2.heap.size 121 #[.int .i64 a, .int .i64 b]) := hide (heap_alloc_new W2 _)
    have HO3 := hide ((unhide HO).belowL al)
    have HI3 := hide ((unhide HI2).below al)
    have HB3 := hide ((unhide HB2).trans (al.mono (unhide HB2).size))
    have HW3 := hide ((unhide HW2).below al)
    have HP3 := hide ((unhide HP2).below al)
    clear al HO HI2 HB2 HW2 HP2
    go_upto_region 5 with fail
    generalize (W2.alloc (.cells #[.int .i64 a, .int .i64 b] 121)) = W3 at HA HO3 HI3 HB3 HW3 HP3 ⊢
    generalize W2.heap.size = g4 at HA ⊢
    clear q1 q2 q3
    obtain ⟨q1, q2, q3⟩ := (unhide HI3).c
    have HN := hide (operands_any op W3 (unhide HW3) ho)
    obtain ⟨n, HNE⟩ : ∃ n, Hid (opnN op = n) := ⟨_, hide rfl⟩
    have hn2 : n ≤ 2 := by rw [← unhide HNE]; unfold opnN; split; omega; split <;> omega
    rw [unhide HNE] at HN HR
    have i2 : (n : Int) ≤ 2 := by omega
    go_wp2_with fail
    refine (unhide HN).mono ?_
    rintro e W4 ⟨rfl, k, hw⟩
    have hd : Below W3.heap.size W3 W4 := by rw [hw]; exact below_dL _ _
    have HA4 := hide ((unhide HA).below hd)
    have HO4 := hide ((unhide HO3).belowL hd)
    have HB4 := hide ((unhide HB3).trans (hd.mono (unhide HB3).size))
    have HP4 := hide ((unhide HP3).below hd)
    clear hw hd HA HO3 HI3 HB3 HW3 HP3 HN q1 q2 q3
    go_wp2_with fail
    go_loopw [3, 30] (fun v i wr => ∃ (q : Nat), q ≤ n ∧ i = .int .i64 (q : Int) ∧ Hid (OwnL wr w.heap.size v ([nmL op] ++ [Lib.itoa a, Lib.itoa b].take q)) ∧ Hid (Bx wr g4 121 #[.int .i64 a, .int .i64 b]) ∧ Hid (PwT wr) ∧ Hid (Below w.heap.size w wr)) (fun _ i _ => n - (intOf i).toNat)
    case atStart => exact ⟨0, by omega, rfl, HO4, HA4, HP4, HB4⟩
    case round =>
      clear HA4 HO4 HB4 HP4
      obtain ⟨q, hq, rfl, HO, HA, HP, HB⟩ := hrel
      by_cases hlt : q < n
      · have j1 : ((q : Nat) : Int) < ((n : Nat) : Int) := by omega
        obtain ⟨x, hx, hc, hx0, hx1⟩ : ∃ x : Int, [Lib.itoa a, Lib.itoa b].take (q + 1) = [Lib.itoa a, Lib.itoa b].take q ++ [Lib.itoa x] ∧ wr.cell? ⟨g4, q, none⟩ = some (.int .i64 x) ∧ -9223372036854775808 ≤ x ∧ x ≤ 9223372036854775807 := by
          rcases (show q = 0 ∨ q = 1 by omega) with rfl | rfl
          · exact ⟨a, rfl, (unhide HA).c 0 rfl, ha0, ha1⟩
          · exact ⟨b, rfl, (unhide HA).c 1 rfl, hb0, hb1⟩
        have HX := hide hx
        have HI := hide (Itoa_any x hx0 hx1 wr (unhide HP))
        obtain ⟨gv, cv, rfl, _, _, _⟩ := (unhide HO).atL (by simp)
        have hln : ([nmL op] ++ [Lib.itoa a, Lib.itoa b].take q).length = q + 1 := by simp; omega
        rw [hln]
        clear hx
        go_wp2_with fail
        refine (unhide HI).mono ?_
        rintro e W5 ⟨rfl, hb⟩
        have al : Below W5.heap.size W5 (W5.alloc (.cells #[tx (Lib.itoa x)] 9)) := (Below.refl _ _).alloc (Nat.le_refl _) _
        have hb2 := hb.trans (al.mono hb.size)
        have HO5 := hide ((unhide HO).belowL hb2)
        have HB5 := hide ((unhide HB).trans (hb2.mono (unhide HB).size))
        have HP5 := hide ((unhide HP).below hb2)
        have HA5 := hide ((unhide HA).below hb2)
        have HON := hide (cell_newX W5 (Lib.itoa x))
        have hsz : w.heap.size ≤ W5.heap.size := Nat.le_trans (unhide HB).size hb.size
        rw [hln] at HO5
        clear hb hb2 al HI HO HB HP HA hc
        go_wp2_with (at_builtin; refine wpList_append_own _ rfl _ _ 41 rfl w.heap.size 9 i0 _ 1 16 Tryz.underlying41 hi0 hz0 hz1 hz2 rfl (by decide) _ (q + 1) (([nmL op] ++ [Lib.itoa a, Lib.itoa b].take q).map tx) rfl (by have h := unhide HO5; unfold OwnL at h; rw [hln] at h; exact h) ⟨W5.heap.size, 0, none⟩ 1 1 [tx (Lib.itoa x)] rfl rfl (unhide HON) (by simp [Value.oneCell']) ?b3 ?b4 ?b5 ?_)
        case b3 => unfold maxLen; omega
        case b4 => omega
        case b5 => simp; omega
        intro v' w' hO hG _
        have HO6 : Hid (OwnL w' w.heap.size v' ([nmL op] ++ [Lib.itoa a, Lib.itoa b].take (q + 1))) := hide (by
          unfold OwnL
          have e1 : ([nmL op] ++ [Lib.itoa a, Lib.itoa b].take (q + 1)) = ([nmL op] ++ [Lib.itoa a, Lib.itoa b].take q) ++ [Lib.itoa x] := by rw [unhide HX, List.append_assoc]
          rw [e1, List.length_append, hln, List.map_append]
          simpa [List.map_append, List.map_take] using hO)
        have HA6 := hide ((unhide HA5).grown hG ((unhide HO5).ne (unhide HA5) (by decide)))
        have HB6 := hide ((unhide HB5).grown hG (by simp; omega) (fun q e => (World.ownsRow.lt (unhide HO5) q e).1))
        have HP6 : Hid (PwT w') := hide ((unhide HPw).below (unhide HB6))
        clear hO hG HO5 HA5 HB5 HP5 HON HX
        go_wp2
        go_roundw
        case rel => exact ⟨q + 1, by omega, by go_num, HO6, HA6, HP6, HB6⟩
        case measure => simp [intOf]; omega
      · have j1 : ¬ ((q : Nat) : Int) < ((n : Nat) : Int) := by omega
        have eq : q = n := by omega
        have e3 : ([nmL op] ++ [Lib.itoa a, Lib.itoa b].take q) = insW op a b := by rw [unhide HR, ← eq]
        have HOf := HO
        rw [e3] at HOf
        clear HO HA HP eq e3
        go_wp2
        go_ret
        exact ⟨_, rfl, unhide HOf, unhide HB⟩
end Go.Proofs.YthdgbdjagjagpaaGreatDoor

/-
  Code as text, plain: the text of instructions with labels; the targets met in their order; lengths. No Go in it.
-/
namespace Go.Proofs.YthdgbdjagjagpaaGreatDoor
open Go.RowKit
set_option maxRecDepth 20000
set_option linter.unusedVariables false

def insT (op : Nat) (a b : Int) : List UInt8 := Lib.join (insW op a b) [32]
def lineT (x : Ix) : List UInt8 := [32, 32] ++ insT x.op x.a x.b ++ [10]
def labT (p : Int) : List UInt8 := labL p ++ [58, 10]
def stepT (ts : List Int) (x : Ix) : List UInt8 := (if x.p ∈ ts then labT x.p else []) ++ lineT x
def txtT (ts : List Int) (l : List Ix) : List UInt8 := l.flatMap (stepT ts)
/-- The operands, as the document adds them. -/
def opsT (op : Nat) (a b : Int) : List UInt8 := (if jmpN op then [32, 108] ++ Lib.itoa a else if 0 < opnN op then [32] ++ Lib.itoa a else []) ++ (if opnN op = 2 then [32] ++ Lib.itoa b else [])
theorem jmp_opn {op : Nat} (h : jmpN op = true) : opnN op = 1 := by
  unfold jmpN at h
  rcases (show op = 19 ∨ op = 20 by simpa using h) with rfl | rfl <;> decide
theorem opn_le (op : Nat) : opnN op ≤ 2 := by unfold opnN; split; omega; split <;> omega
theorem ins_ops (op : Nat) (a b : Int) : insT op a b = nmL op ++ opsT op a b := by
  unfold insT insW opsT
  cases hj : jmpN op with
  | true =>
    have := jmp_opn hj
    rw [this]
    simp [Lib.join, labL]
  | false =>
    have := opn_le op
    rcases (show opnN op = 0 ∨ opnN op = 1 ∨ opnN op = 2 by omega) with h | h | h <;> rw [h] <;> simp [Lib.join]
theorem nm_len (op : Nat) : (nmL op).length ≤ 10 := by
  unfold nmL nmD
  split
  · rename_i h
    have hall : ∀ o, o < 34 → (wC o).data.toList.length ≤ 10 := by decide
    exact hall op h
  · simp
structure FitX (x : Ix) : Prop where
  p0 : 0 ≤ x.p
  p1 : x.p ≤ 4096
  op : x.op < 34
  a0 : -9223372036854775808 ≤ x.a
  a1 : x.a ≤ 9223372036854775807
  b0 : 0 ≤ x.b
  b1 : x.b ≤ 4294967296
theorem ops_len {op : Nat} {a b : Int} (a0 : -9223372036854775808 ≤ a) (a1 : a ≤ 9223372036854775807) (b0 : -9223372036854775808 ≤ b) (b1 : b ≤ 9223372036854775807) : (opsT op a b).length ≤ 50 := by
  have h1 := itoa_len a a0 a1
  have h2 := itoa_len b b0 b1
  unfold opsT
  rw [List.length_append]
  split <;> split <;> (try split) <;> simp <;> omega
theorem line_len {x : Ix} (h : FitX x) : (lineT x).length ≤ 70 := by
  have h1 := ops_len (op := x.op) h.a0 h.a1 (b := x.b) (by have := h.b0; omega) (by have := h.b1; omega)
  have h2 := nm_len x.op
  unfold lineT
  rw [ins_ops]
  simp
  omega
theorem lab_len {x : Ix} (h : FitX x) : (labT x.p).length ≤ 30 := by
  have h1 := itoa_len x.p (by have := h.p0; omega) (by have := h.p1; omega)
  unfold labT labL
  simp
  omega
theorem step_len {ts : List Int} {x : Ix} (h : FitX x) : (stepT ts x).length ≤ 100 := by
  have h1 := line_len h
  have h2 := lab_len h
  unfold stepT
  rw [List.length_append]
  split
  · omega
  · simp; omega
theorem txt_len {ts : List Int} : ∀ {l : List Ix}, (∀ x ∈ l, FitX x) → (txtT ts l).length ≤ 100 * l.length
  | [], _ => by simp [txtT]
  | x :: t, h => by
    have h1 := step_len (ts := ts) (h x List.mem_cons_self)
    have h2 := txt_len (ts := ts) (l := t) (fun y hy => h y (List.mem_cons_of_mem _ hy))
    have e : txtT ts (x :: t) = stepT ts x ++ txtT ts t := by unfold txtT; rw [List.flatMap_cons]
    rw [e, List.length_append, List.length_cons]
    omega
theorem txt_snoc (ts : List Int) (l : List Ix) (x : Ix) : txtT ts (l ++ [x]) = txtT ts l ++ stepT ts x := by unfold txtT; simp
theorem dB_bd (op : Nat) (t : List UInt8) (h : op < 34) : 0 ≤ dB op t ∧ dB op t ≤ 4294967296 := by
  have h1 := beNI_lt ((t.drop (wA op)).take (wB op))
  have h2 : wB op ≤ 4 := by
    have hall : ∀ o, o < 34 → wB o ≤ 4 := by decide
    exact hall op h
  have h3 : ((t.drop (wA op)).take (wB op)).length ≤ 4 := by rw [List.length_take]; omega
  have h4 : 256 ^ ((t.drop (wA op)).take (wB op)).length ≤ 256 ^ 4 := Nat.pow_le_pow_right (by omega) h3
  have h5 : beNI ((t.drop (wA op)).take (wB op)) < 4294967296 := Nat.lt_of_lt_of_le h1 h4
  unfold dB
  omega
theorem ixD_bdB {k : Nat} {l : List UInt8} (h : dE l = 0) : 0 ≤ (ixD k l).b ∧ (ixD k l).b ≤ 4294967296 := by
  have ho := (ixD_ok (k := k) h).1
  cases l with
  | nil => simp [dE] at h
  | cons x t => exact dB_bd _ _ ho
theorem sc_bdB (L : List UInt8) : ∀ f k, ∀ x ∈ (scD L f k).1, 0 ≤ x.b ∧ x.b ≤ 4294967296 := by
  intro f
  induction f with
  | zero => intro k x hx; cases hx
  | succ f ih =>
    intro k x hx
    by_cases h : k < L.length
    · by_cases he : dE (L.drop k) = 0
      · rw [sc_good h he] at hx
        rcases List.mem_cons.1 hx with hx | hx
        · rw [hx]; exact ixD_bdB he
        · exact ih _ x hx
      · rw [sc_bad h he] at hx; cases hx
    · rw [sc_end h] at hx; cases hx
theorem scR_bdB (L : List UInt8) : ∀ x ∈ (scR L).1, 0 ≤ x.b ∧ x.b ≤ 4294967296 := by
  intro x hx
  unfold scR at hx
  by_cases h : 4096 < L.length
  · rw [if_pos h] at hx; cases hx
  · rw [if_neg h] at hx
    split at hx
    · exact sc_bdB L _ _ x hx
    · cases hx
theorem fit_of {L : List UInt8} (h : xok (scR L).1) : ∀ x ∈ (scR L).1, FitX x := fun x hx =>
  ⟨(h x hx).2.1, (h x hx).2.2, (h x hx).1, (scR_bd L x hx).1, (scR_bd L x hx).2, (scR_bdB L x hx).1, (scR_bdB L x hx).2⟩
/-- Instructions one behind the other. -/
def UpA : List Ix → Prop
  | [] => True
  | x :: t => (∀ y ∈ t, x.p < y.p) ∧ UpA t
theorem sc_up (L : List UInt8) : ∀ f k, UpA (scD L f k).1 ∧ ∀ x ∈ (scD L f k).1, (k : Int) ≤ x.p := by
  intro f
  induction f with
  | zero => intro k; exact ⟨trivial, fun x hx => by cases hx⟩
  | succ f ih =>
    intro k
    by_cases h : k < L.length
    · by_cases he : dE (L.drop k) = 0
      · rw [sc_good h he]
        obtain ⟨_, hp, hs1, hs2⟩ := ixD_ok (k := k) he
        have hi := ih (k + sizeD (ixD k (L.drop k)).op)
        refine ⟨⟨fun y hy => ?_, hi.1⟩, fun x hx => ?_⟩
        · have := hi.2 y hy; omega
        · rcases List.mem_cons.1 hx with hx | hx
          · rw [hx]; omega
          · have := hi.2 x hx; omega
      · rw [sc_bad h he]; exact ⟨trivial, fun x hx => by cases hx⟩
    · rw [sc_end h]; exact ⟨trivial, fun x hx => by cases hx⟩
theorem scR_up (L : List UInt8) : UpA (scR L).1 := by
  unfold scR
  split
  · exact trivial
  · split
    · exact (sc_up L _ _).1
    · exact trivial
theorem UpA.split {r : List Ix} {x : Ix} : ∀ (A : List Ix), UpA (A ++ x :: r) → (∀ y ∈ A, y.p < x.p) ∧ (∀ y ∈ r, x.p < y.p)
  | [], h => ⟨fun y hy => (by cases hy), h.1⟩
  | z :: A, h => by
    have := UpA.split (r := r) (x := x) A h.2
    refine ⟨fun y hy => ?_, this.2⟩
    rcases List.mem_cons.1 hy with hy | hy
    · rw [hy]; exact h.1 x (by simp)
    · exact this.1 y hy
/-- The targets that were not met yet. -/
def remT (ts : List Int) (A : List Ix) : List Int := ts.filter fun t => !hasP A t
theorem hasP_mem {l : List Ix} {t : Int} : hasP l t = true ↔ ∃ y ∈ l, y.p = t := by unfold hasP; simp
theorem hasP_snoc (A : List Ix) (x : Ix) (t : Int) : hasP (A ++ [x]) t = (hasP A t || decide (x.p = t)) := by unfold hasP; simp
theorem filt_head {P : Int → Bool} {x : Int} : ∀ {ts : List Int}, AscJ ts → (∀ t ∈ ts, P t = true → x ≤ t) → P x = true → x ∈ ts → ts.filter P = x :: ts.filter (fun t => P t && !decide (x = t))
  | [], _, _, _, h => by cases h
  | t :: r, ha, hm, hp, hx => by
    have hr := (List.pairwise_cons.1 ha).1
    have har : AscJ r := (List.pairwise_cons.1 ha).2
    by_cases e : x = t
    · subst e
      rw [List.filter_cons_of_pos hp, List.filter_cons_of_neg (by simp)]
      congr 1
      apply List.filter_congr
      intro y hy
      have := hr y hy
      have : ¬ x = y := by omega
      simp [this]
    · have hxr : x ∈ r := by
        rcases List.mem_cons.1 hx with h | h
        · exact absurd h e
        · exact h
      have hlt := hr x hxr
      have hpt : P t = false := by
        cases h : P t with
        | false => rfl
        | true => have := hm t List.mem_cons_self h; omega
      rw [List.filter_cons_of_neg (by rw [hpt]; simp), List.filter_cons_of_neg (by rw [hpt]; simp)]
      exact filt_head har (fun y hy => hm y (List.mem_cons_of_mem _ hy)) hp hxr
theorem rem_hit {l A r : List Ix} {x : Ix} {ts : List Int} (hl : l = A ++ x :: r) (hu : UpA l) (ha : AscJ ts) (hh : ∀ t ∈ ts, hasP l t = true) (hx : x.p ∈ ts) : remT ts A = x.p :: remT ts (A ++ [x]) := by
  subst hl
  obtain ⟨h1, h2⟩ := UpA.split (r := r) (x := x) A hu
  have hpx : (!hasP A x.p) = true := by
    cases h : hasP A x.p with
    | false => rfl
    | true => obtain ⟨y, hy, e⟩ := hasP_mem.1 h; have := h1 y hy; omega
  have e : remT ts (A ++ [x]) = ts.filter (fun t => (!hasP A t) && !decide (x.p = t)) := by
    unfold remT
    apply List.filter_congr
    intro t _
    rw [hasP_snoc, Bool.not_or]
  rw [e]
  refine filt_head ha (fun t ht hp => ?_) hpx hx
  obtain ⟨y, hy, e2⟩ := hasP_mem.1 (hh t ht)
  rcases List.mem_append.1 hy with hy | hy
  · have : hasP A t = true := hasP_mem.2 ⟨y, hy, e2⟩
    rw [this] at hp; cases hp
  · rcases List.mem_cons.1 hy with hy | hy
    · rw [← e2, hy]; exact Int.le_refl _
    · have := h2 y hy; omega
theorem rem_miss {A : List Ix} {x : Ix} {ts : List Int} (hx : x.p ∉ ts) : remT ts A = remT ts (A ++ [x]) ∧ ∀ t r, remT ts A = t :: r → t ≠ x.p := by
  refine ⟨?_, fun t r e h => ?_⟩
  · unfold remT
    apply List.filter_congr
    intro t ht
    have : ¬ x.p = t := fun e => hx (by rw [e]; exact ht)
    rw [hasP_snoc]
    simp [this]
  · have : t ∈ remT ts A := by rw [e]; exact List.mem_cons_self
    exact hx (by rw [← h]; exact (List.mem_filter.1 this).1)
theorem dE_51 (l : List UInt8) : dE l ≠ 51 := by
  unfold dE
  split
  · decide
  · split
    · split
      · decide
      · split <;> decide
    · decide
theorem sc_51 (L : List UInt8) : ∀ f k, (scD L f k).2.2 ≠ 51 := by
  intro f
  induction f with
  | zero => intro k; show (0 : Int) ≠ 51; decide
  | succ f ih =>
    intro k
    by_cases h : k < L.length
    · by_cases he : dE (L.drop k) = 0
      · rw [sc_good h he]; exact ih _
      · rw [sc_bad h he]; exact dE_51 _
    · rw [sc_end h]; show (0 : Int) ≠ 51; decide
theorem remT_nil (ts : List Int) : remT ts [] = ts := by
  unfold remT
  rw [List.filter_eq_self]
  intro t _
  rfl
end Go.Proofs.YthdgbdjagjagpaaGreatDoor

/-
  The library under asm's Print: a builder's WriteString and String, Join of an instruction's words, BinarySearch of a row of numbers. Conditions: lengths fit.
-/
namespace Go.Proofs
open Go.Shelf Go.RowKit
theorem Tryz.laysWS : Go.Proofs.Lays.n166 Tryz.prog Tryz.laysJoin_ren := { Tryz.laysJoin with }
theorem Tryz.laysSg : Go.Proofs.Lays.n169 Tryz.prog Tryz.laysJoin_ren := { Tryz.laysJoin with }
end Go.Proofs
namespace Go.Proofs.YthdgbdjagjagpaaGreatDoor
open Go.RowKit
set_option maxRecDepth 20000
set_option linter.unusedVariables false

/-- A builder in block b that holds these bytes. -/
abbrev BdA (w : World) (b : Nat) (l : List UInt8) : Prop := Lib.IsBuilderF 70 5 b b (Lib.byteCells l) w
theorem BdA.at {w : World} {b : Nat} {l : List UInt8} {p : Value} (h : Lib.BuilderAtF 70 5 b b p (Lib.byteCells l) w) (hb : b < w.heap.size) {w' : World} (hw : Below w.heap.size w w') : Lib.BuilderAtF 70 5 b b p (Lib.byteCells l) w' := by
  obtain ⟨hB, v, hv, hown, hne⟩ := h
  exact ⟨hB, v, (hw.block b hb).trans hv, hown.kept (row := none) ⟨hw.os, hw.tape, hw.output, hw.size, fun k hk _ => hw.block k hk⟩ (Classical.em _), hne⟩
theorem BdA.belowA {w w' : World} {b : Nat} {l : List UInt8} (h : BdA w b l) (hb : b < w.heap.size) (hw : Below w.heap.size w w') : BdA w' b l :=
  h.elim (fun x => .inl (BdA.at x hb hw)) (fun x => .inr (BdA.at x hb hw))
theorem BdA.new (w : World) : BdA (w.alloc (.cells #[.pointer none, .slice none 0 0] 70)) w.heap.size [] := Lib.IsBuilderF.of (Lib.fresh_isBuilder 70 5 w)
theorem WriteString_any (b : Nat) (l m : List UInt8) (w : World) (h : BdA w b l) (hb : b < w.heap.size) (hl : l.length + m.length ≤ 140737488355328) :
    Calls Tryz.prog 29 #[.pointer (some ⟨b, 0, none⟩), tx m] w fun e w' => (∃ v, e = .returned v) ∧ BdA w' b (l ++ m) ∧ Below b w w' ∧ Lib.OthersKept 5 (some b) w w' := by
  refine (Any.Builder_WriteString_k Tryz.laysWS Tryz.extraJoin b b (Lib.byteCells l) ⟨m.toArray⟩ w h (by rw [Lib.byteCells_length]; show l.length + m.toArray.size ≤ _; simp; omega) (Nat.le_of_lt hb)).mono ?_
  rintro e w' ⟨rfl, h1, h2, h3⟩
  refine ⟨⟨_, rfl⟩, Or.inr ?_, h2, h3⟩
  have e1 : Lib.byteCells l ++ Lib.strCells ⟨m.toArray⟩ = Lib.byteCells (l ++ m) := by
    rw [Lib.strCells_eq, Lib.byteCells_append]
  rw [← e1]
  exact h1
theorem BString_any (b : Nat) (l : List UInt8) (w : World) (h : BdA w b l) (hb : b < w.heap.size) :
    Calls Tryz.prog 33 #[.pointer (some ⟨b, 0, none⟩)] w fun e w' => e = .returned (tx l) ∧ Below b w w' :=
  (Any.Builder_String_any_k Tryz.laysSg Tryz.extraJoin b b l w h (Nat.le_of_lt hb)).mono fun e w' ⟨h1, _, h2, _⟩ => ⟨h1, h2⟩
theorem join_any (v : Value) (op : Nat) (a b : Int) (B : Nat) (w : World) (h : OwnL w B v (insW op a b)) (hl : (insT op a b).length ≤ 140737488355328) :
    Calls Tryz.prog 31 #[v, .string ⟨#[32]⟩] w fun e w' => e = .returned (tx (insT op a b)) ∧ Below w.heap.size w w' := by
  have hpos : 0 < (insW op a b).length := by unfold insW; simp
  have hle : (insW op a b).length ≤ 3 := by
    unfold insW
    rw [List.length_cons]
    split
    · simp
    · rw [List.length_take]; simp; omega
  obtain ⟨g, cap, rfl, hcap, hg, hc⟩ := h.atL hpos
  have e1 : ((insW op a b).map (fun l => (⟨l.toArray⟩ : ByteArray))).length = (insW op a b).length := by simp
  have e2 : ((insW op a b).map (fun l => (⟨l.toArray⟩ : ByteArray))).map (·.data.toList) = insW op a b := by
    rw [List.map_map]
    have : ((fun x : ByteArray => x.data.toList) ∘ fun l : List UInt8 => (⟨l.toArray⟩ : ByteArray)) = id := by funext l; simp
    rw [this, List.map_id]
  have hJ := Join_any g 0 cap ((insW op a b).map (fun l => (⟨l.toArray⟩ : ByteArray))) ⟨#[32]⟩ w (fun j x hx => by
    rw [List.getElem?_map] at hx
    cases hi : (insW op a b)[j]? with
    | none => rw [hi] at hx; cases hx
    | some y =>
      rw [hi] at hx
      injection hx with hx
      subst hx
      rw [Nat.zero_add]
      exact hc j y hi) hg (by rw [e1]; omega) (by rw [e1]; exact hcap) (by rw [e2]; exact hl)
  rw [e1, e2] at hJ
  exact hJ
theorem search_anyA (v : Value) (ts : List Int) (x : Int) (B : Nat) (w : World) (h : OwnJ w B v ts) (ha : AscJ ts) (hz : ts.length ≤ 1000000) :
    Calls Tryz.prog 28 #[v, .int .i64 x] w fun e w' => (∃ n : Nat, e = .returned (.tuple #[.int .i64 (n : Int), .bool (decide (x ∈ ts))])) ∧ Below w.heap.size w w' := by
  obtain ⟨ao, cap, rfl, hat, hn⟩ := h.at
  by_cases h0 : ts = []
  · subst h0
    refine (Any.slices_BinarySearch_int_empty Tryz.laysBS ao cap x w).mono ?_
    rintro e w' ⟨rfl, hw⟩
    rw [hw]
    exact ⟨⟨0, rfl⟩, Below.refl _ _⟩
  · have hp : 0 < ts.length := List.length_pos_iff.2 h0
    obtain ⟨b, off, rfl, _⟩ := hat 0 _ (List.getElem?_eq_getElem hp)
    have hc : ∀ j, j < ts.length → w.cell? ⟨b, off + j, none⟩ = some (.int .i64 (ts.getD j 0)) := fun j hj => by
      obtain ⟨b', off', e, hh⟩ := hat j _ (List.getElem?_eq_getElem hj)
      injection e with e
      injection e with e1 e2
      subst e1 e2
      rw [hh, List.getD_eq_getElem?_getD, List.getElem?_eq_getElem hj]
      rfl
    refine (Any.slices_BinarySearch_int Tryz.laysBS b off ts.length cap ts x w (Nat.le_refl _) (by omega) hc (by rw [List.take_length]; exact List.Pairwise.imp (fun h => Int.le_of_lt h) ha)).mono ?_
    rintro e w' ⟨rfl, q, hw⟩
    rw [hw, List.take_length]
    have e1 : ts.contains x = decide (x ∈ ts) := by rw [Bool.eq_iff_iff, List.contains_iff_mem, decide_eq_true_iff]
    rw [e1]
    exact ⟨⟨_, rfl⟩, below_dL _ _⟩
end Go.Proofs.YthdgbdjagjagpaaGreatDoor

/-
  asm.Print: the text of code, or the fault. Conditions: lengths fit, the tables are laid.
-/
namespace Go.Proofs.YthdgbdjagjagpaaGreatDoor
open Go.RowKit
set_option maxRecDepth 20000
set_option linter.unusedVariables false
set_option linter.unusedSimpArgs false

/-- What Print tells: the text, the place and the error. -/
def prR (L : List UInt8) : List UInt8 × Int × Int := if (ckR L).2 ≠ 0 ∧ (ckR L).2 ≠ 51 then ([], ckR L) else (txtT (pts (tgs (scR L).1)) (scR L).1, 0, 0)
theorem ck_sc {L : List UInt8} (h : ¬ ((ckR L).2 ≠ 0 ∧ (ckR L).2 ≠ 51)) : (scR L).2.2 = 0 := by
  unfold ckR at h
  by_cases h0 : (scR L).2.2 = 0
  · exact h0
  · rw [if_neg h0] at h
    have h1 : (scR L).2.2 = 51 := by
      by_cases h1 : (scR L).2.2 = 51
      · exact h1
      · exact absurd ⟨h0, h1⟩ h
    exfalso
    unfold scR at h1
    split at h1
    · have h1 : (4 : Int) = 51 := h1
      omega
    · split at h1
      · have h1 : (0 : Int) = 51 := h1
        omega
      · exact sc_51 L _ _ h1
theorem keep_i {w w' : World} {b gi : Nat} {p a c : Int} {op : Nat} (h : IAt w gi p op a c) (hk : Lib.OthersKept 5 (some b) w w') (hb : gi ≠ b) : IAt w' gi p op a c :=
  hk gi _ h (fun e => hb (by injection e)) (fun cs fz e => by injection e with _ e; exact absurd e (by decide))
theorem WriteString_s (b : Nat) (l m : List UInt8) (s : ByteArray) (w : World) (h : BdA w b l) (hb : b < w.heap.size) (hl : l.length + m.length ≤ 140737488355328) (hs : s = ⟨m.toArray⟩) :
    Calls Tryz.prog 29 #[.pointer (some ⟨b, 0, none⟩), .string s] w fun e w' => (∃ v, e = .returned v) ∧ BdA w' b (l ++ m) ∧ Below b w w' ∧ Lib.OthersKept 5 (some b) w w' := by
  subst hs
  exact WriteString_any b l m w h hb hl
set_option maxHeartbeats 8000000 in
theorem asmPrint_any (ao : Option Addr) (c : Nat) (L : List UInt8) (w : World) (hb : BAt w ao L) (hW : WidAt w) (hC : WordsC w) (hP : PwT w) (hl : L.length ≤ 140737488355328) (hc : L.length ≤ c) :
    Calls Tryz.prog 10 #[.slice ao L.length c] w fun e w' => e = .returned (.tuple #[tx (prR L).1, .int .i64 (prR L).2.1, .int .i64 (prR L).2.2]) ∧ Below w.heap.size w w' := by
  have HCK := hide (Check_any ao c L w hb hW hl hc)
  have HL := hide hb
  have HW := hide hW
  have HC := hide hC
  have HP := hide hP
  unfold prR
  by_cases hbad : (ckR L).2 ≠ 0 ∧ (ckR L).2 ≠ 51
  · rw [if_pos hbad]
    have t0 : ((ckR L).2 != 0) = true := bne_t hbad.1
    have t1 : ((ckR L).2 != 51) = true := bne_t hbad.2
    generalize ckR L = ck at HCK t0 t1 ⊢
    clear hb hW hC hP hbad
    go_enter Tryz.func10, Tryz.ntmps10
    go_wp2_with fail
    refine (unhide HCK).mono ?_
    rintro e W ⟨rfl, hB⟩
    have HB := hide hB
    clear hB HCK
    go_wp2
    go_ret3
    exact ⟨rfl, unhide HB⟩
  rw [if_neg hbad]
  have hsc := ck_sc hbad
  have hq : ((ckR L).2 == 0) = true ∨ ((ckR L).2 == 0) = false ∧ ((ckR L).2 == 51) = true := by
    by_cases h0 : (ckR L).2 = 0
    · exact Or.inl (beq_t h0)
    · refine Or.inr ⟨beq_f h0, beq_t ?_⟩
      by_cases h1 : (ckR L).2 = 51
      · exact h1
      · exact absurd ⟨h0, h1⟩ hbad
  have HSC := hide (fun W (h : Below w.heap.size w W) => Scan_any ao c L W (hb.below' h) (hW.below h) hl hc)
  have HLEN := hide (scR_len L)
  have HFIT := hide (fun h => fit_of (L := L) h)
  generalize ckR L = ck at HCK hq hbad
  generalize scR L = R at HSC HLEN HFIT hsc ⊢
  obtain ⟨l, pl, el⟩ := R
  replace HSC : Hid (∀ W, Below w.heap.size w W → Calls Tryz.prog 26 #[.slice ao L.length c] W fun e w' => ∃ v, e = .returned (.tuple #[v, .int .i64 (pl : Int), .int .i64 el]) ∧ OwnX w' W.heap.size v l ∧ xok l ∧ Below W.heap.size W w') := HSC
  replace HLEN : Hid (l.length ≤ 4097) := HLEN
  replace HFIT : Hid (xok l → ∀ x ∈ l, FitX x) := HFIT
  show Calls _ _ _ _ (fun e w' => e = .returned (.tuple #[tx (txtT (pts (tgs l)) l), .int .i64 0, .int .i64 0]) ∧ Below w.heap.size w w')
  obtain ⟨ts, HTE⟩ : ∃ ts, Hid (pts (tgs l) = ts) := ⟨_, hide rfl⟩
  rw [unhide HTE]
  clear hb hW hC hP hsc hbad
  go_enter Tryz.func10, Tryz.ntmps10
  go_wp2_with fail
  refine (unhide HCK).mono ?_
  rintro e W1 ⟨rfl, hB⟩
  have HB1 := hide hB
  have HS1 := hide (unhide HSC W1 hB)
  clear hB HCK HSC
  go_upto_region 2 with fail
  go_cut [26] (fun cc wx => cc = .bool false ∧ Hid (wx = W1))
  case first =>
    obtain ⟨c1, c2⟩ := ck
    rcases hq with hq | ⟨hq, hq2⟩
    · have t0 : (c2 != 0) = false := bne_f (by simpa using hq)
      clear hq
      go_wp2
      go_meet
      exact ⟨rfl, hide rfl⟩
    · have t0 : (c2 != 0) = true := bne_t (by simpa using hq)
      have t1 : (c2 != 51) = false := bne_f (by simpa using hq2)
      clear hq hq2
      go_wp2
      go_meet
      exact ⟨rfl, hide rfl⟩
  case rest =>
  obtain ⟨rfl, HWX⟩ := hcut
  rw [unhide HWX]
  clear HWX hq
  go_wp2_with fail
  refine (unhide HS1).mono ?_
  rintro e W2 ⟨v, rfl, hO, hK, hB⟩
  have HF := hide (unhide HFIT hK)
  have HB2 := hide ((unhide HB1).trans (hB.mono (unhide HB1).size))
  obtain ⟨av, cv, rfl, hX⟩ := hO.at (fun f hf => by have := (hK f hf).1; omega)
  have HX := hide hX
  have HT := hide (Targets_any av cv l W2 hX (by have := unhide HLEN; omega) (fun x hx => ⟨(unhide HF x hx).a0, (unhide HF x hx).a1⟩))
  clear hO hK hB hX HS1 HB1
  go_wp2_with fail
  refine (unhide HT).mono ?_
  rintro e W3 ⟨vt, rfl, hJ, hB3⟩
  have HX3 := hide ((unhide HX).below hB3)
  have HJ3 := hide hJ
  have HB3 := hide ((unhide HB2).trans (hB3.mono (unhide HB2).size))
  have hts : (pts (tgs l)).length ≤ 4097 := by
    have h1 := pts_len (tgs l)
    have h2 := tgs_len l
    have h3 := unhide HLEN
    omega
  have HASC : Hid (AscJ (pts (tgs l))) := hide (pts_both (tgs l) [] List.Pairwise.nil).1
  have HTS := hide hts
  rw [unhide HTE] at HJ3 HASC HTS
  clear HTE
  have HLL := hide (unhide HLEN)
  have HBD := hide (BdA.new W3)
  have HBL : Hid (Below W3.heap.size W3 (W3.alloc (.cells #[.pointer none, .slice none 0 0] 70))) := hide ((Below.refl _ _).alloc (Nat.le_refl _) _)
  have HLT : Hid (W3.heap.size < (W3.alloc (.cells #[.pointer none, .slice none 0 0] 70)).heap.size) := hide (by simp)
  clear hJ hB3 hts HT HX HB2 HLEN
  have HWB := hide (fun W (h : Below W3.heap.size W3 W) => (⟨(unhide HW).below ((unhide HB3).trans (h.mono (unhide HB3).size)), (unhide HC).below ((unhide HB3).trans (h.mono (unhide HB3).size)), (unhide HP).below ((unhide HB3).trans (h.mono (unhide HB3).size))⟩ : WidAt W ∧ WordsC W ∧ PwT W))
  clear HW HC HP HL
  go_upto_region 7 with fail
  generalize (W3.alloc (.cells #[.pointer none, .slice none 0 0] 70)) = W4 at HBD HBL HLT ⊢
  go_wp2_with fail
  go_loopw [39] (fun i wr => ∃ k : Nat, k ≤ l.length ∧ i = .int .i64 (k : Int) ∧ Hid (BdA wr W3.heap.size (txtT ts (l.take k))) ∧ Hid (Below W3.heap.size W3 wr) ∧ Hid (W3.heap.size < wr.heap.size)) (fun i _ => l.length - (intOf i).toNat)
  case atStart => exact ⟨0, by omega, rfl, HBD, HBL, HLT⟩
  case round =>
    clear HBD HBL HLT
    obtain ⟨k, hk, rfl, HBD, HBL, HLT⟩ := hrel
    by_cases hkl : k < l.length
    · have j1 : ((k : Nat) : Int) < ((l.length : Nat) : Int) := by omega
      have hx := List.getElem?_eq_getElem hkl
      generalize l[k] = x at hx
      have HFX := hide (unhide HF x (List.mem_of_getElem? hx))
      have HT : Hid (txtT ts (l.take (k + 1)) = txtT ts (l.take k) ++ stepT ts x) := hide (by rw [take_snoc hx, txt_snoc])
      have HTL : Hid ((txtT ts (l.take k)).length ≤ 409700) := hide (by
        have h1 := txt_len (ts := ts) (l := l.take k) (fun y hy => unhide HF y (List.mem_of_mem_take hy))
        have h2 := unhide HLL
        rw [List.length_take] at h1
        omega)
      obtain ⟨b', off, rfl, hc⟩ := ((unhide HX3).below (unhide HBL)) k x hx
      obtain ⟨c0, c1, c2, c3, ho⟩ := hc
      have hal : Below wr.heap.size wr (wr.alloc (.cells #[.int .i64 x.p, .int .u8 (x.op : Int), .int .i64 x.a, .int .i64 x.b] 72)) := (Below.refl _ _).alloc (Nat.le_refl _) _
      have I1 : Hid (IAt (wr.alloc (.cells #[.int .i64 x.p, .int .u8 (x.op : Int), .int .i64 x.a, .int .i64 x.b] 72)) wr.heap.size x.p x.op x.a x.b) := hide (heap_alloc_new wr _)
      have HBD1 := hide ((unhide HBD).belowA (unhide HLT) hal)
      have HBL1 := hide ((unhide HBL).trans (hal.mono (unhide HBL).size))
      have HLT1 := hide (Nat.lt_of_lt_of_le (unhide HLT) hal.size)
      have HNE : Hid (wr.heap.size ≠ W3.heap.size) := hide (by have := unhide HLT; omega)
      clear hx hal
      go_upto_region 10 with fail
      generalize (wr.alloc (.cells #[.int .i64 x.p, .int .u8 (x.op : Int), .int .i64 x.a, .int .i64 x.b] 72)) = w1 at I1 HBD1 HBL1 HLT1 ⊢
      generalize wr.heap.size = gi at I1 HNE ⊢
      clear c0 c1 c2 c3 HBD HBL HLT
      have d0 := (unhide I1).c0
      have HSE := hide (search_anyA vt ts x.p _ w1 ((unhide HJ3).below (unhide HBL1)) (unhide HASC) (by have := unhide HTS; omega))
      go_wp2_with fail
      refine (unhide HSE).mono ?_
      rintro e w2 ⟨⟨n, rfl⟩, hb2⟩
      have I2 := hide ((unhide I1).below hb2)
      have HBD2 := hide ((unhide HBD1).belowA (unhide HLT1) hb2)
      have HBL2 := hide ((unhide HBL1).trans (hb2.mono (unhide HBL1).size))
      have HLT2 := hide (Nat.lt_of_lt_of_le (unhide HLT1) hb2.size)
      clear hb2 HSE I1 HBD1 HBL1 HLT1 d0
      obtain ⟨q, HQ⟩ : ∃ q, Hid (decide (x.p ∈ ts) = q) := ⟨_, hide rfl⟩
      rw [unhide HQ]
      go_upto_if 50 with fail
      go_cut [] (fun wx => Hid (BdA wx W3.heap.size (txtT ts (l.take k) ++ (if x.p ∈ ts then labT x.p else []))) ∧ Hid (Below W3.heap.size W3 wx) ∧ Hid (W3.heap.size < wx.heap.size) ∧ Hid (IAt wx gi x.p x.op x.a x.b))
      case first =>
        cases q with
        | true =>
          have hm : x.p ∈ ts := of_decide_eq_true (unhide HQ)
          have HM : Hid ((if x.p ∈ ts then labT x.p else []) = labT x.p) := hide (if_pos hm)
          clear hm HQ
          have d0 := (unhide I2).c0
          have HLB := hide (label_any x.p (by have := (unhide HFX).p0; omega) (by have := (unhide HFX).p1; omega) w2 (unhide HWB _ (unhide HBL2)).2.2)
          go_wp2_with fail
          refine (unhide HLB).mono ?_
          rintro e w3 ⟨rfl, hb3⟩
          have I3 := hide ((unhide I2).below hb3)
          have HBD3 := hide ((unhide HBD2).belowA (unhide HLT2) hb3)
          have HBL3 := hide ((unhide HBL2).trans (hb3.mono (unhide HBL2).size))
          have HLT3 := hide (Nat.lt_of_lt_of_le (unhide HLT2) hb3.size)
          have hln : (labL x.p).length ≤ 28 := by
            have := lab_len (unhide HFX)
            unfold labT at this
            rw [List.length_append] at this
            simp at this
            omega
          have hln2 : ¬ 9223372036854775807 < (labL x.p).length + 2 := by omega
          have HSL : Hid ((txtT ts (l.take k)).length + (labT x.p).length ≤ 140737488355328) := hide (by
            have h1 := lab_len (unhide HFX)
            have h2 := unhide HTL
            omega)
          have HWS := hide (fun s (hs : s = ⟨(labT x.p).toArray⟩) => WriteString_s _ _ (labT x.p) s w3 (unhide HBD3) (unhide HLT3) (unhide HSL) hs)
          clear hb3 HLB I2 HBD2 HBL2 HLT2 d0 hln
          go_wp2_with fail
          refine (unhide HWS _ (ba_app _ _)).mono ?_
          rintro e w4 ⟨⟨v4, rfl⟩, hd4, hb4, hk4⟩
          have I4 := hide (keep_i (unhide I3) hk4 (unhide HNE))
          have HBL4 := hide ((unhide HBL3).trans hb4)
          have HBD4 : Hid (BdA w4 W3.heap.size (txtT ts (l.take k) ++ (if x.p ∈ ts then labT x.p else []))) := hide (by rw [unhide HM]; exact hd4)
          have HLT4 := hide (Nat.lt_of_lt_of_le (unhide HLT3) hb4.size)
          clear hd4 hb4 hk4 HWS HSL HM
          go_wp2_with fail
          go_meet
          exact ⟨HBD4, HBL4, HLT4, I4⟩
        | false =>
          have hm : x.p ∉ ts := of_decide_eq_false (unhide HQ)
          have HBD4 : Hid (BdA w2 W3.heap.size (txtT ts (l.take k) ++ (if x.p ∈ ts then labT x.p else []))) := hide (by rw [if_neg hm, List.append_nil]; exact unhide HBD2)
          clear hm HQ
          go_wp2_with fail
          go_meet
          exact ⟨HBD4, HBL2, HLT2, I2⟩
      case rest =>
      clear HBD2 HBL2 HLT2 I2 HQ
      obtain ⟨HBD2, HBL2, HLT2, I2⟩ := hcut
      have HSL : Hid ((txtT ts (l.take k) ++ (if x.p ∈ ts then labT x.p else [])).length ≤ 409800) := hide (by
        have h1 := lab_len (unhide HFX)
        have h2 := unhide HTL
        rw [List.length_append]
        split
        · omega
        · simp; omega)
      have HST : Hid (txtT ts (l.take (k + 1)) = (txtT ts (l.take k) ++ (if x.p ∈ ts then labT x.p else [])) ++ lineT x) := hide (by rw [unhide HT, stepT, List.append_assoc])
      obtain ⟨pre, HPRE⟩ : ∃ pre, Hid ((txtT ts (l.take k) ++ (if x.p ∈ ts then labT x.p else [])) = pre) := ⟨_, hide rfl⟩
      rw [unhide HPRE] at HBD2 HSL HST
      clear HPRE HT HTL
      have HIN := hide (instruction_any x.p x.op x.a x.b wc ho (unhide HFX).a0 (unhide HFX).a1 (by have := (unhide HFX).b0; omega) (by have := (unhide HFX).b1; omega) (unhide HWB _ (unhide HBL2)).1 (unhide HWB _ (unhide HBL2)).2.1 (unhide HWB _ (unhide HBL2)).2.2)
      have d0 := (unhide I2).c0
      obtain ⟨d1, d2, d3⟩ := (unhide I2).c
      go_wp2_with fail
      refine (unhide HIN).mono ?_
      rintro e w5 ⟨vi, rfl, ho5, hb5⟩
      have HBD5 := hide ((unhide HBD2).belowA (unhide HLT2) hb5)
      have HBL5 := hide ((unhide HBL2).trans (hb5.mono (unhide HBL2).size))
      have HLT5 := hide (Nat.lt_of_lt_of_le (unhide HLT2) hb5.size)
      have hln : (insT x.op x.a x.b).length ≤ 67 := by
        have := line_len (unhide HFX)
        unfold lineT at this
        simp at this
        omega
      have HJO := hide (join_any vi x.op x.a x.b _ w5 ho5 (by omega))
      clear ho5 hb5 HIN HBD2 HBL2 HLT2 I2 d0 d1 d2 d3
      go_wp2_with fail
      refine (unhide HJO).mono ?_
      rintro e w6 ⟨rfl, hb6⟩
      have HBD6 := hide ((unhide HBD5).belowA (unhide HLT5) hb6)
      have HBL6 := hide ((unhide HBL5).trans (hb6.mono (unhide HBL5).size))
      have HLT6 := hide (Nat.lt_of_lt_of_le (unhide HLT5) hb6.size)
      have hl1 : ¬ 9223372036854775807 < 2 + (insT x.op x.a x.b).length := by omega
      have hl2 : ¬ 9223372036854775807 < 2 + (insT x.op x.a x.b).length + 1 := by omega
      have HWL : Hid (pre.length + (lineT x).length ≤ 140737488355328) := hide (by
        have h1 := line_len (unhide HFX)
        have h2 := unhide HSL
        omega)
      have HWS := hide (fun s (hs : s = ⟨(lineT x).toArray⟩) => WriteString_s _ pre (lineT x) s w6 (unhide HBD6) (unhide HLT6) (unhide HWL) hs)
      clear hb6 HJO HBD5 HBL5 HLT5 hln
      go_wp2_with fail
      refine (unhide HWS _ (by rw [ba_app, ba_app]; rfl)).mono ?_
      rintro e w7 ⟨⟨v7, rfl⟩, hd7, hb7, hk7⟩
      have HBD7 : Hid (BdA w7 W3.heap.size (txtT ts (l.take (k + 1)))) := hide (by rw [unhide HST]; exact hd7)
      have HBL7 := hide ((unhide HBL6).trans hb7)
      have HLT7 := hide (Nat.lt_of_lt_of_le (unhide HLT6) hb7.size)
      clear hd7 hb7 hk7 HWS HWL hl1 hl2 HST HSL HBD6 HBL6 HLT6
      have hlen := unhide HLL
      go_wp2_with fail
      go_roundw
      case rel => exact ⟨k + 1, by omega, by go_num, HBD7, HBL7, HLT7⟩
      case measure => simp [intOf]; omega
    · obtain rfl : k = l.length := by omega
      rw [List.take_length] at HBD
      have HS := hide (BString_any _ _ _ (unhide HBD) (unhide HLT))
      go_wp2_with fail
      refine (unhide HS).mono ?_
      rintro e w5 ⟨rfl, hb5⟩
      have HE := hide ((unhide HB3).trans (((unhide HBL).trans hb5).mono (unhide HB3).size))
      clear hb5 HS HBD HBL HLT
      go_wp2
      go_ret3
      exact ⟨rfl, unhide HE⟩
end Go.Proofs.YthdgbdjagjagpaaGreatDoor

/-
  The document's Print under contract. Conditions: lengths fit, the tables are laid.
-/
namespace Go.Proofs.YthdgbdjagjagpaaGreatDoor
open Go.RowKit
set_option maxRecDepth 20000
set_option linter.unusedVariables false
set_option linter.unusedSimpArgs false

/-- What Print tells, of what was scanned. -/
def prX (l : List Ix) (p : Int) (e : Int) : List UInt8 × Int × Int := if e = 0 then (match ckJ l l with | some q => ([], q, 50) | none => (txtT (pts (tgs l)) l, 0, 0)) else ([], p, e)
theorem prX_bad {l : List Ix} {p e : Int} (h : e ≠ 0) : prX l p e = ([], p, e) := if_neg h
theorem prX_jump {l : List Ix} {p q : Int} (h : ckJ l l = some q) : prX l p 0 = ([], q, 50) := by unfold prX; rw [if_pos rfl, h]
theorem prX_good {l : List Ix} {p : Int} (h : ckJ l l = none) : prX l p 0 = (txtT (pts (tgs l)) l, 0, 0) := by unfold prX; rw [if_pos rfl, h]
theorem ckL_two {l : List Ix} (h : ckJ l l = none) : ¬ ((ckL l).2 ≠ 0 ∧ (ckL l).2 ≠ 51) := by
  unfold ckL
  rw [h]
  simp only []
  cases l.getLast? with
  | none => simp
  | some x => simp only []; split <;> simp
theorem scR_51 (L : List UInt8) : (scR L).2.2 ≠ 51 := by
  unfold scR
  split
  · show (4 : Int) ≠ 51; decide
  · split
    · show (0 : Int) ≠ 51; decide
    · exact sc_51 L _ _
theorem prR_prX (L : List UInt8) : prR L = prX (scR L).1 ((scR L).2.1 : Int) (scR L).2.2 := by
  unfold prR
  by_cases h : (scR L).2.2 = 0
  · have hc : ckR L = ckL (scR L).1 := by unfold ckR; rw [if_pos h]
    rw [hc, h]
    cases hj : ckJ (scR L).1 (scR L).1 with
    | some q => rw [prX_jump hj, ckL_jump hj, if_pos (by constructor <;> simp)]
    | none => rw [prX_good hj, if_neg (ckL_two hj)]
  · have hc : ckR L = (((scR L).2.1 : Int), (scR L).2.2) := by unfold ckR; rw [if_neg h]
    rw [hc, prX_bad h, if_pos ⟨h, scR_51 L⟩]
theorem ckJ_none {l : List Ix} : ∀ {r : List Ix}, ckJ l r = none → ∀ x ∈ r, jmpD x.op = true → hasP l x.a = true
  | [], _, x, hx, _ => by cases hx
  | y :: t, h, x, hx, hj => by
    unfold ckJ at h
    split at h
    · cases h
    · rename_i hn
      rcases List.mem_cons.1 hx with e | hx
      · subst e
        rw [hj] at hn
        cases hh : hasP l x.a with
        | true => rfl
        | false => rw [hh] at hn; exact absurd rfl hn
      · exact ckJ_none h x hx hj
theorem tgs_has {l : List Ix} (h : ckJ l l = none) : ∀ t ∈ pts (tgs l), hasP l t = true := fun t ht => by
  have h1 := ((pts_both (tgs l) [] List.Pairwise.nil).2 t).1 ht
  rcases h1 with h1 | h1
  · cases h1
  · unfold tgs at h1
    obtain ⟨x, hx, rfl⟩ := List.mem_map.1 h1
    obtain ⟨hx, hj⟩ := List.mem_filter.1 hx
    exact ckJ_none h x hx hj
/-- A slice of numbers, with room behind it. -/
def JsV (w : World) (v : Value) (r : List Int) : Prop := ∃ ao cap, v = .slice ao r.length cap ∧ JsAt w ao r ∧ r.length ≤ cap ∧ cap ≤ 9223372036854775807
theorem JsV.below {w w' : World} {v : Value} {r : List Int} (h : JsV w v r) (hb : Below w.heap.size w w') : JsV w' v r := by
  obtain ⟨ao, cap, e, h1, h2, h3⟩ := h
  exact ⟨ao, cap, e, h1.below hb, h2, h3⟩
theorem OwnJ.jsV {w : World} {base : Nat} {v : Value} {r : List Int} (h : OwnJ w base v r) : JsV w v r := by
  rcases h.2 with ⟨h1, h2⟩ | ⟨g, cap, cur, rfl, hb, hh, hn, hm, hs, ht⟩
  · obtain rfl := List.eq_nil_of_length_eq_zero h2
    exact ⟨none, 0, h1, fun i x hx => (by simp at hx), Nat.le_refl _, by omega⟩
  · refine ⟨_, cap, rfl, fun i x hx => ⟨g, 0, rfl, ?_⟩, hn, by unfold maxLen at hm; omega⟩
    have hi := (List.getElem?_eq_some_iff.1 hx).1
    rw [Nat.zero_add, World.ownsRow.cellAt h i (by omega)]
    unfold jvals
    rw [List.getElem?_map, hx]
    rfl
theorem JsV.tail {w w' : World} {x : Int} {r r2 : List Int} (ao : Option Addr) (b o cap : Nat) (h : JsAt w (some ⟨b, o, none⟩) r) (hr : r = x :: r2) (hc : r.length ≤ cap) (hz : cap ≤ 9223372036854775807) (hb : Below w.heap.size w w') :
    (cap = 1 → JsV w' (.slice (some ⟨b, o, none⟩) r2.length 0) r2) ∧ (¬ cap = 1 → JsV w' (.slice (some ⟨b, o + 1, none⟩) r2.length (cap - 1)) r2) := by
  have hb2 := h.below hb
  subst hr
  rw [List.length_cons] at hc
  refine ⟨fun e => ?_, fun e => ⟨_, _, rfl, fun i y hy => ⟨b, o + 1, rfl, ?_⟩, by omega, by omega⟩⟩
  · obtain rfl : r2 = [] := List.eq_nil_of_length_eq_zero (by omega)
    exact ⟨_, _, rfl, fun i y hy => (by simp at hy), by simp, by omega⟩
  · obtain ⟨b', o', e', hh⟩ := hb2 (i + 1) y hy
    injection e' with e'
    injection e' with e1 e2
    subst e1 e2
    rw [show o + 1 + i = o + (i + 1) by omega]
    exact hh
theorem ap3 (a b c d : List UInt8) : (⟨a.toArray⟩ : ByteArray) ++ ((⟨b.toArray⟩ : ByteArray) ++ ⟨c.toArray⟩) ++ (⟨d.toArray⟩ : ByteArray) = ⟨(a ++ (b ++ c) ++ d).toArray⟩ := by rw [ba_app, ba_app, ba_app]
theorem ap5 (a b c e f d : List UInt8) : (⟨a.toArray⟩ : ByteArray) ++ ((⟨b.toArray⟩ : ByteArray) ++ ⟨c.toArray⟩) ++ ((⟨e.toArray⟩ : ByteArray) ++ ⟨f.toArray⟩) ++ (⟨d.toArray⟩ : ByteArray) = ⟨(a ++ (b ++ c) ++ (e ++ f) ++ d).toArray⟩ := by rw [ba_app, ba_app, ba_app, ba_app, ba_app]
set_option maxRecDepth 20000 in
set_option maxHeartbeats 16000000 in
theorem refPrint_any (ao : Option Addr) (c : Nat) (L : List UInt8) (w : World) (hb : BAt w ao L) (hP : PwT w) (hl : L.length ≤ 140737488355328) (hc : L.length ≤ c) :
    Calls Tryz.prog 12 #[.slice ao L.length c] w fun e w' => e = .returned (.tuple #[tx (prR L).1, .int .i64 (prR L).2.1, .int .i64 (prR L).2.2]) ∧ Below w.heap.size w w' := by
  have HSC := hide (refScan_any ao c L w hb hl hc)
  have HP := hide hP
  have hlen := scR_len L
  have HFIT := hide (fun h => fit_of (L := L) h)
  have HUP := hide (scR_up L)
  rw [prR_prX]
  generalize scR L = R at HSC hlen HFIT HUP ⊢
  obtain ⟨l, p, e⟩ := R
  simp only [] at HSC hlen HFIT HUP ⊢
  obtain ⟨res, HRES⟩ : ∃ res, Hid (prX l (p : Int) e = res) := ⟨_, hide rfl⟩
  rw [unhide HRES]
  clear hb hP
  go_enter Tryz.func12, Tryz.ntmps12
  by_cases he : e = 0
  case neg =>
    have hn : (e != 0) = true := bne_iff_ne.2 he
    have HR : Hid (res = ([], (p : Int), e)) := hide (by rw [← unhide HRES, prX_bad he])
    clear he HFIT HUP HP
    go_wp2_with (go_at_call 34; refine (unhide HSC).mono ?_; rintro e w1 ⟨v, rfl, hO, hK, hB⟩)
    go_ret3
    rw [unhide HR]
    exact ⟨rfl, hB⟩
  subst he
  go_upto_region 4 with (go_at_call 34; refine (unhide HSC).mono ?_; rintro e w1 ⟨v, rfl, hO, hK, hB⟩)
  obtain ⟨oa, oc, rfl, hX⟩ := hO.at (fun f hf => by have := (hK f hf).1; omega)
  have HX := hide hX
  have HB := hide hB
  have HF := hide (unhide HFIT hK)
  clear hO hK hB hX HSC HFIT
  go_wp2
  go_loopw [27] (fun i wr => ∃ k : Nat, k ≤ l.length ∧ i = .int .i64 (k : Int) ∧ Hid (ckJ l l = ckJ l (l.drop k)) ∧ Hid (Below w1.heap.size w1 wr)) (fun i _ => l.length - (intOf i).toNat)
  case atStart => exact ⟨0, by omega, rfl, hide rfl, hide (Below.refl _ _)⟩
  case round =>
    obtain ⟨k, hk, rfl, HN, HB0⟩ := hrel
    by_cases hkl : k < l.length
    · have j1 : ((k : Nat) : Int) < ((l.length : Nat) : Int) := by omega
      have hx := List.getElem?_eq_getElem hkl
      generalize l[k] = x at hx
      have hx0 := ((unhide HX).below (unhide HB0)) k x hx
      have hJ := ckJ_drop (l := l) hx
      obtain ⟨b, off, rfl, hc⟩ := hx0
      obtain ⟨c0, c1, c2, c3, ho⟩ := hc
      have hal : Below wr.heap.size wr (wr.alloc (.cells #[.int .i64 x.p, .int .u8 (x.op : Int), .int .i64 x.a, .int .i64 x.b] 72)) := (Below.refl _ _).alloc (Nat.le_refl _) _
      have I1 : Hid (IAt (wr.alloc (.cells #[.int .i64 x.p, .int .u8 (x.op : Int), .int .i64 x.a, .int .i64 x.b] 72)) wr.heap.size x.p x.op x.a x.b) := hide (heap_alloc_new wr _)
      have HB1 := hide ((unhide HB0).trans (hal.mono (unhide HB0).size))
      rw [← unhide HN] at hJ
      have HJ := hide hJ
      clear hx hal hJ HN
      go_upto_region 7 with fail
      generalize (wr.alloc (.cells #[.int .i64 x.p, .int .u8 (x.op : Int), .int .i64 x.a, .int .i64 x.b] 72)) = w2 at I1 HB1 ⊢
      generalize wr.heap.size = gi at I1 ⊢
      clear c0 c1 c2 c3 HB0
      obtain ⟨d1, d2, d3⟩ := (unhide I1).c
      have HJU := hide (refJumps_any x.op w2)
      by_cases hj : jmpD x.op = true
      · rw [show (decide (x.op = 19) || decide (x.op = 20)) = true from hj] at HJU
        have HPL := hide (Place_any (some ⟨b, off, none⟩) oc l x.a w2 ((unhide HX).below (unhide HB1)) (by omega))
        cases hh : hasP l x.a with
        | false =>
          rw [hh] at HPL
          have HR : Hid (res = ([], x.p, 50)) := hide (by rw [← unhide HRES]; exact prX_jump (by rw [unhide HJ, hj, hh]; rfl))
          clear HJ hj hh HP HF HUP
          simp only [Bool.not_false] at HPL
          go_wp2_with (first | (go_at_call 35; refine (unhide HJU).mono ?_; rintro e w2' ⟨rfl, rfl⟩) | (go_at_call 36; refine (unhide HPL).mono ?_; rintro e w3 ⟨n, rfl, hn, hB3⟩; have d0 := (IAt.below (unhide I1) hB3).c0; have HB3 := hide ((unhide HB1).trans (hB3.mono (unhide HB1).size)); clear hB3))
          go_region
          go_wp2
          go_ret3
          rw [unhide HR]
          exact ⟨rfl, ((unhide HB).trans ((unhide HB3).mono (unhide HB).size)).trans ((below_dL _ _).mono (Nat.le_trans (unhide HB).size (unhide HB3).size))⟩
        | true =>
          rw [hh] at HPL
          have HN2 : Hid (ckJ l l = ckJ l (l.drop (k + 1))) := hide (by rw [unhide HJ, hj, hh]; rfl)
          clear HJ hj hh
          simp only [Bool.not_true] at HPL
          go_wp2_with (first | (go_at_call 35; refine (unhide HJU).mono ?_; rintro e w2' ⟨rfl, rfl⟩) | (go_at_call 36; refine (unhide HPL).mono ?_; rintro e w3 ⟨n, rfl, hn, hB3⟩; have d0 := (IAt.below (unhide I1) hB3).c0; have HB3 := hide ((unhide HB1).trans (hB3.mono (unhide HB1).size)); clear hB3))
          go_roundw
          case rel => exact ⟨k + 1, by omega, by go_num, HN2, HB3⟩
          case measure => simp [intOf]; omega
      · have hj' : jmpD x.op = false := by simpa using hj
        rw [show (decide (x.op = 19) || decide (x.op = 20)) = false from hj'] at HJU
        have HN2 : Hid (ckJ l l = ckJ l (l.drop (k + 1))) := hide (by rw [unhide HJ, hj']; rfl)
        clear HJ hj hj'
        go_wp2_with (go_at_call 35; refine (unhide HJU).mono ?_; rintro e w2' ⟨rfl, rfl⟩)
        go_roundw
        case rel => exact ⟨k + 1, by omega, by go_num, HN2, HB1⟩
        case measure => simp [intOf]; omega
    · obtain rfl : k = l.length := by omega
      have hnone : ckJ l l = none := by rw [unhide HN, List.drop_length]; rfl
      have HR : Hid (res = (txtT (pts (tgs l)) l, 0, 0)) := hide (by rw [← unhide HRES]; exact prX_good hnone)
      have HB1 := hide ((unhide HB).trans ((unhide HB0).mono (unhide HB).size))
      have HXr := hide ((unhide HX).below (unhide HB0))
      have HTH := hide (tgs_has hnone)
      have HTG := hide (refTargets_any oa oc l wr (unhide HXr) (by omega))
      clear hnone HN HB0 HX HB HRES hkl hk
      go_wp2_with fail
      refine (unhide HTG).mono ?_
      rintro e w2 ⟨vt, rfl, hO, hB2⟩
      have HASC : Hid (AscJ (pts (tgs l))) := hide (pts_both (tgs l) [] List.Pairwise.nil).1
      obtain ⟨ts, HTE⟩ : ∃ ts, Hid (pts (tgs l) = ts) := ⟨_, hide rfl⟩
      rw [unhide HTE] at HR HTH hO HASC
      have hz : ts.length ≤ 4097 := by
        have h1 := pts_len (tgs l)
        have h2 := tgs_len l
        rw [unhide HTE] at h1
        omega
      have HJV : Hid (JsV w2 vt (remT ts (l.take 0))) := hide (by rw [List.take_zero, remT_nil]; exact OwnJ.jsV hO)
      have HX2 := hide ((unhide HXr).below hB2)
      have HB2 := hide ((unhide HB1).trans (hB2.mono (unhide HB1).size))
      clear hO hB2 hz HTG HXr HB1 HTE
      go_wp2_with fail
      go_loopw [10, 11, 48] (fun v s i wr => ∃ k : Nat, k ≤ l.length ∧ i = .int .i64 (k : Int) ∧ s = tx (txtT ts (l.take k)) ∧ Hid (JsV wr v (remT ts (l.take k))) ∧ Hid (Below w2.heap.size w2 wr)) (fun _ _ i _ => l.length - (intOf i).toNat)
      case atStart => exact ⟨0, by omega, rfl, rfl, HJV, hide (Below.refl _ _)⟩
      case round =>
        clear HJV
        obtain ⟨k, hk, rfl, rfl, HJV, HBL⟩ := hrel
        by_cases hkl : k < l.length
        · have j1 : ((k : Nat) : Int) < ((l.length : Nat) : Int) := by omega
          have hx := List.getElem?_eq_getElem hkl
          generalize l[k] = x at hx
          have HFX := hide (unhide HF x (List.mem_of_getElem? hx))
          have HT : Hid (txtT ts (l.take (k + 1)) = txtT ts (l.take k) ++ stepT ts x) := hide (by rw [take_snoc hx, txt_snoc])
          have HTL : Hid ((txtT ts (l.take k)).length ≤ 409700) := hide (by
            have h1 := txt_len (ts := ts) (l := l.take k) (fun y hy => unhide HF y (List.mem_of_mem_take hy))
            rw [List.length_take] at h1
            omega)
          have HREM : Hid ((x.p ∈ ts ∧ ∃ t, remT ts (l.take k) = x.p :: t ∧ remT ts (l.take (k + 1)) = t) ∨ (x.p ∉ ts ∧ remT ts (l.take (k + 1)) = remT ts (l.take k) ∧ (remT ts (l.take k) = [] ∨ ∃ t r, remT ts (l.take k) = t :: r ∧ t ≠ x.p))) := hide (by
            have hs : l = l.take k ++ x :: l.drop (k + 1) := by
              obtain ⟨h1, h2⟩ := List.getElem?_eq_some_iff.1 hx
              rw [← h2, ← List.drop_eq_getElem_cons h1, List.take_append_drop]
            rw [take_snoc hx]
            by_cases hm : x.p ∈ ts
            · exact Or.inl ⟨hm, _, rem_hit hs (unhide HUP) (unhide HASC) (unhide HTH) hm, rfl⟩
            · obtain ⟨h1, h2⟩ := rem_miss (A := l.take k) hm
              refine Or.inr ⟨hm, h1.symm, ?_⟩
              cases hr : remT ts (l.take k) with
              | nil => exact Or.inl rfl
              | cons t r => exact Or.inr ⟨t, r, rfl, h2 t r hr⟩)
          obtain ⟨b, off, rfl, hc⟩ := ((unhide HX2).below (unhide HBL)) k x hx
          obtain ⟨c0, c1, c2, c3, ho⟩ := hc
          have hal : Below wr.heap.size wr (wr.alloc (.cells #[.int .i64 x.p, .int .u8 (x.op : Int), .int .i64 x.a, .int .i64 x.b] 72)) := (Below.refl _ _).alloc (Nat.le_refl _) _
          have I1 : Hid (IAt (wr.alloc (.cells #[.int .i64 x.p, .int .u8 (x.op : Int), .int .i64 x.a, .int .i64 x.b] 72)) wr.heap.size x.p x.op x.a x.b) := hide (heap_alloc_new wr _)
          have HJV1 := hide ((unhide HJV).below hal)
          have HBL1 := hide ((unhide HBL).trans (hal.mono (unhide HBL).size))
          clear hx hal HJV HBL
          go_upto_region 15 with fail
          generalize (wr.alloc (.cells #[.int .i64 x.p, .int .u8 (x.op : Int), .int .i64 x.a, .int .i64 x.b] 72)) = w3 at I1 HJV1 HBL1 ⊢
          generalize wr.heap.size = gi at I1 ⊢
          clear c0 c1 c2 c3
          obtain ⟨pre, HPRE⟩ : ∃ pre, Hid (txtT ts (l.take k) = pre) := ⟨_, hide rfl⟩
          rw [unhide HPRE] at HT HTL ⊢
          clear HPRE
          obtain ⟨rem, HRE⟩ : ∃ rem, Hid (remT ts (l.take k) = rem) := ⟨_, hide rfl⟩
          rw [unhide HRE] at HJV1 HREM
          clear HRE
          obtain ⟨rem2, HRE⟩ : ∃ rem2, Hid (remT ts (l.take (k + 1)) = rem2) := ⟨_, hide rfl⟩
          rw [unhide HRE] at HREM
          obtain ⟨q, HQ⟩ : ∃ q, Hid (decide (x.p ∈ ts) = q) := ⟨_, hide rfl⟩
          go_upto_region 15 with fail
          go_cut [62] (fun vb wx => vb = .bool q ∧ Hid (Below w3.heap.size w3 wx))
          case first =>
            have d0 := (unhide I1).c0
            obtain ⟨ra, rc, rfl, hj, hlc, hcz⟩ := unhide HJV1
            have HJJ := hide hj
            clear hj
            rcases unhide HREM with ⟨hm, t, hr, _⟩ | ⟨hm, _, rfl | ⟨t, r, hr, hne⟩⟩
            · have hq : Hid (q = true) := hide (by rw [← unhide HQ]; exact decide_eq_true hm)
              obtain ⟨b2, o2, rfl, hc2⟩ := unhide HJJ 0 x.p (by rw [hr]; rfl)
              have hc2 : w3.cell? ⟨b2, o2, none⟩ = some (.int .i64 x.p) := hc2
              have i1 : (rem.length : Int) > 0 := by rw [hr]; simp
              have i2 : 0 < rem.length := by omega
              clear hm hr HREM HQ HT HTL HRE HJJ
              go_region
              go_wp2
              go_meet
              exact ⟨by rw [unhide hq], hide ⟨rfl, rfl, rfl, Nat.le_refl _, fun _ _ => rfl⟩⟩
            · have hq : Hid (q = false) := hide (by rw [← unhide HQ]; exact decide_eq_false hm)
              clear hm HREM HQ HT HTL HRE HJJ
              go_region
              go_wp2
              go_meet
              exact ⟨by rw [unhide hq], hide ⟨rfl, rfl, rfl, Nat.le_refl _, fun _ _ => rfl⟩⟩
            · have hq : Hid (q = false) := hide (by rw [← unhide HQ]; exact decide_eq_false hm)
              obtain ⟨b2, o2, rfl, hc2⟩ := unhide HJJ 0 t (by rw [hr]; rfl)
              have hc2 : w3.cell? ⟨b2, o2, none⟩ = some (.int .i64 t) := hc2
              have hne2 : (t == x.p) = false := beq_f hne
              have i1 : (rem.length : Int) > 0 := by rw [hr]; simp
              have i2 : 0 < rem.length := by omega
              clear hm hr HREM HQ HT HTL HRE hne HJJ
              go_region
              go_wp2
              go_meet
              exact ⟨by rw [unhide hq], hide ⟨rfl, rfl, rfl, Nat.le_refl _, fun _ _ => rfl⟩⟩
          case rest =>
          obtain ⟨rfl, HWX⟩ := hcut
          have I2 := hide ((unhide I1).below (unhide HWX))
          have HJV2 := hide ((unhide HJV1).below (unhide HWX))
          have HBL2 := hide ((unhide HBL1).trans ((unhide HWX).mono (unhide HBL1).size))
          clear HWX I1 HJV1 HBL1
          have HPB := hide (fun W (h : Below w2.heap.size w2 W) => (unhide HP).below ((unhide HB2).trans (h.mono (unhide HB2).size)))
          have hpl : pre.length ≤ 409700 := unhide HTL
          go_upto_if 62 with fail
          go_cut [10, 11] (fun vr vs wx => vs = tx (pre ++ (if x.p ∈ ts then labT x.p else [])) ∧ Hid (JsV wx vr rem2) ∧ Hid (Below w2.heap.size w2 wx) ∧ Hid (IAt wx gi x.p x.op x.a x.b))
          case first =>
            cases q with
            | true =>
              have hm : x.p ∈ ts := of_decide_eq_true (unhide HQ)
              have HM : Hid ((if x.p ∈ ts then labT x.p else []) = labT x.p) := hide (if_pos hm)
              have hr : rem = x.p :: rem2 := by
                rcases unhide HREM with ⟨_, t, h1, h2⟩ | ⟨h1, _⟩
                · rw [h1, h2]
                · exact absurd hm h1
              obtain ⟨ra, rc, rfl, hj, hlc, hcz⟩ := unhide HJV2
              obtain ⟨b2, o2, rfl, hc2⟩ := hj 0 x.p (by rw [hr]; rfl)
              have HJ := hide hj
              have HRL := hide hr
              have hrl : rem.length = rem2.length + 1 := by rw [hr]; rfl
              clear hr
              have d0 := (unhide I2).c0
              have hx0 := (unhide HFX).p0
              have hx1 := (unhide HFX).p1
              have HI := hide (Itoa_any x.p (by omega) (by omega) wc (unhide HPB _ (unhide HBL2)))
              clear hm HQ HREM HRE HJV2 hj hc2
              go_wp2_with fail
              refine (unhide HI).mono ?_
              rintro e w4 ⟨rfl, hb4⟩
              have hln := itoa_len x.p (by omega) (by omega)
              have hl1 : ¬ 9223372036854775807 < 1 + (Lib.itoa x.p).length := by omega
              have hl2 : ¬ 9223372036854775807 < 1 + (Lib.itoa x.p).length + 2 := by omega
              have hl3 : ¬ 9223372036854775807 < pre.length + (1 + (Lib.itoa x.p).length + 2) := by omega
              have I4 := hide ((unhide I2).below hb4)
              have HBL4 := hide ((unhide HBL2).trans (hb4.mono (unhide HBL2).size))
              have HJ4 := hide (hb4)
              clear hb4 HI I2 HBL2 d0 hln
              go_upto_region 17 with fail
              have hva : (⟨pre.toArray⟩ : ByteArray) ++ ((⟨#[108]⟩ : ByteArray) ++ ⟨(Lib.itoa x.p).toArray⟩ ++ (⟨#[58, 10]⟩ : ByteArray)) = ⟨(pre ++ (if x.p ∈ ts then labT x.p else [])).toArray⟩ := by
                rw [unhide HM]
                exact ((congrArg (fun z => (⟨pre.toArray⟩ : ByteArray) ++ (z ++ (⟨#[58, 10]⟩ : ByteArray))) (ba_app [108] (Lib.itoa x.p))).trans ((congrArg (fun z => (⟨pre.toArray⟩ : ByteArray) ++ z) (ba_app ([108] ++ Lib.itoa x.p) [58, 10])).trans (ba_app pre _)))
              have HVA := hide hva
              have HJV4 := hide (JsV.tail none b2 o2 rc (unhide HJ) (unhide HRL) hlc hcz (unhide HJ4))
              clear hva HJ HRL HJ4 HM
              go_wp2
              case inl =>
                go_meet
                exact ⟨by rw [unhide HVA], (unhide HJV4).1 h, HBL4, I4⟩
              case inr =>
                go_meet
                exact ⟨by rw [unhide HVA], (unhide HJV4).2 h, HBL4, I4⟩
            | false =>
              have hm : x.p ∉ ts := of_decide_eq_false (unhide HQ)
              have hr2 : rem2 = rem := by
                rcases unhide HREM with ⟨h1, _⟩ | ⟨_, h1, _⟩
                · exact absurd h1 hm
                · exact h1
              have hv : pre ++ (if x.p ∈ ts then labT x.p else []) = pre := by rw [if_neg hm, List.append_nil]
              have HV := hide hv
              have HR2 := hide hr2
              clear hm HQ HREM HRE hr2 hv
              go_wp2_with fail
              go_meet
              exact ⟨by rw [unhide HV], by rw [unhide HR2]; exact HJV2, HBL2, I2⟩
          case rest =>
          clear I2 HJV2 HBL2
          obtain ⟨rfl, HJV2, HBL2, I2⟩ := hcut
          obtain ⟨pre2, HP2⟩ : ∃ pre2, Hid ((pre ++ (if x.p ∈ ts then labT x.p else [])) = pre2) := ⟨_, hide rfl⟩
          have HT2 : Hid (txtT ts (l.take (k + 1)) = pre2 ++ lineT x) := hide (by rw [unhide HT, stepT, ← unhide HP2, List.append_assoc])
          have hp2 : pre2.length ≤ 409800 := by
            have h1 := lab_len (unhide HFX)
            rw [← unhide HP2, List.length_append]
            split
            · omega
            · simp; omega
          rw [unhide HP2]
          clear HP2 HT HTL hpl HREM HQ
          obtain ⟨d1, -, -⟩ := (unhide I2).c
          have HN := hide (refName_any x.op wc ho)
          go_wp2_with fail
          refine (unhide HN).mono ?_
          rintro e w5 ⟨rfl, hb5⟩
          rw [nm_tx]
          have hnl := nm_len x.op
          have hl1 : ¬ 9223372036854775807 < 2 + (nmL x.op).length := by omega
          have hl2 : ¬ 9223372036854775807 < pre2.length + (2 + (nmL x.op).length) := by omega
          have I5 := hide ((unhide I2).below hb5)
          have HBL5 := hide ((unhide HBL2).trans (hb5.mono (unhide HBL2).size))
          have HJV5 := hide ((unhide HJV2).below hb5)
          obtain ⟨d1, -, -⟩ := (unhide I5).c
          have HOP := hide (refOperands_any x.op w5 ho)
          clear hb5 HN I2 HBL2 HJV2
          go_upto_region 19 with fail
          have hv3 : (⟨pre2.toArray⟩ : ByteArray) ++ ((⟨#[32, 32]⟩ : ByteArray) ++ ⟨(nmL x.op).toArray⟩) = ⟨(pre2 ++ ([32, 32] ++ nmL x.op)).toArray⟩ := (congrArg (fun z => (⟨pre2.toArray⟩ : ByteArray) ++ z) (ba_app [32, 32] (nmL x.op))).trans (ba_app pre2 _)
          have hp3 : (pre2 ++ ([32, 32] ++ nmL x.op)).length ≤ 409900 := by simp; omega
          have HST : Hid (txtT ts (l.take (k + 1)) = (pre2 ++ ([32, 32] ++ nmL x.op)) ++ (opsT x.op x.a x.b ++ [10])) := hide (by rw [unhide HT2]; unfold lineT; rw [ins_ops]; simp)
          rw [hv3]
          generalize (pre2 ++ ([32, 32] ++ nmL x.op)) = pre3 at hp3 HST ⊢
          clear hv3 HT2 hnl hl1 hl2 hp2
          cases hj : jmpN x.op with
          | true =>
            · have hn := jmp_opn hj
              have HJU := hide (refJumps_any x.op w5)
              rw [show (decide (x.op = 19) || decide (x.op = 20)) = true from hj] at HJU
              have HOT : Hid (opsT x.op x.a x.b = [32, 108] ++ Lib.itoa x.a) := hide (by unfold opsT; rw [hj, hn]; simp)
              rw [hn] at HOP
              clear hj hn
              go_wp2_with fail
              refine (unhide HOP).mono ?_
              rintro e w6 ⟨rfl, hw⟩
              rw [hw]
              clear hw w6 HOP
              go_wp2_with fail
              refine (unhide HJU).mono ?_
              rintro e w6 ⟨rfl, hw⟩
              rw [hw]
              clear hw w6 HJU
              obtain ⟨d1, d2, d3⟩ := (unhide I5).c
              have HI := hide (Itoa_any x.a (unhide HFX).a0 (unhide HFX).a1 w5 (unhide HPB _ (unhide HBL5)))
              have hla := itoa_len x.a (unhide HFX).a0 (unhide HFX).a1
              go_wp2_with fail
              refine (unhide HI).mono ?_
              rintro e w6 ⟨rfl, hb6⟩
              have hl1 : ¬ 9223372036854775807 < 2 + (Lib.itoa x.a).length := by omega
              have hl2 : ¬ 9223372036854775807 < pre3.length + (2 + (Lib.itoa x.a).length) := by omega
              have hl3 : ¬ 9223372036854775807 < pre3.length + (2 + (Lib.itoa x.a).length) + 1 := by omega
              have I6 := hide ((unhide I5).below hb6)
              have HBL6 := hide ((unhide HBL5).trans (hb6.mono (unhide HBL5).size))
              have HJV6 := hide ((unhide HJV5).below hb6)
              clear hb6 HI I5 HBL5 HJV5 d1 d2 d3 
              have HFV := hide ((congrArg Value.string (ap3 pre3 [32, 108] (Lib.itoa x.a) [10])).trans (congrArg tx (show _ = txtT ts (l.take (k + 1)) by rw [unhide HST, unhide HOT]; simp)))
              clear HST HOT
              go_wp2_with fail
              go_roundw
              case rel => exact ⟨k + 1, by omega, by go_num, unhide HFV, by rw [unhide HRE]; exact HJV6, HBL6⟩
              case measure => simp [intOf]; omega
          | false =>
            rcases (show opnN x.op = 0 ∨ opnN x.op = 1 ∨ opnN x.op = 2 by have := opn_le x.op; omega) with hn | hn | hn
            · skip
              have HJU := hide (refJumps_any x.op w5)
              rw [show (decide (x.op = 19) || decide (x.op = 20)) = false from hj] at HJU
              have HOT : Hid (opsT x.op x.a x.b = []) := hide (by unfold opsT; rw [hj, hn]; simp)
              rw [hn] at HOP
              clear hj hn
              go_wp2_with fail
              refine (unhide HOP).mono ?_
              rintro e w6 ⟨rfl, hw⟩
              rw [hw]
              clear hw w6 HOP
              go_wp2_with fail
              refine (unhide HJU).mono ?_
              rintro e w6 ⟨rfl, hw⟩
              rw [hw]
              clear hw w6 HJU
              have hl3 : ¬ 9223372036854775807 < pre3.length + 1 := by omega
              have HFV := hide ((congrArg Value.string (ba_app pre3 [10])).trans (congrArg tx (show _ = txtT ts (l.take (k + 1)) by rw [unhide HST, unhide HOT]; simp)))
              clear HST HOT
              go_wp2_with fail
              go_roundw
              case rel => exact ⟨k + 1, by omega, by go_num, unhide HFV, by rw [unhide HRE]; exact HJV5, HBL5⟩
              case measure => simp [intOf]; omega
            · skip
              have HJU := hide (refJumps_any x.op w5)
              rw [show (decide (x.op = 19) || decide (x.op = 20)) = false from hj] at HJU
              have HOT : Hid (opsT x.op x.a x.b = [32] ++ Lib.itoa x.a) := hide (by unfold opsT; rw [hj, hn]; simp)
              rw [hn] at HOP
              clear hj hn
              go_wp2_with fail
              refine (unhide HOP).mono ?_
              rintro e w6 ⟨rfl, hw⟩
              rw [hw]
              clear hw w6 HOP
              go_wp2_with fail
              refine (unhide HJU).mono ?_
              rintro e w6 ⟨rfl, hw⟩
              rw [hw]
              clear hw w6 HJU
              obtain ⟨d1, d2, d3⟩ := (unhide I5).c
              have HI := hide (Itoa_any x.a (unhide HFX).a0 (unhide HFX).a1 w5 (unhide HPB _ (unhide HBL5)))
              have hla := itoa_len x.a (unhide HFX).a0 (unhide HFX).a1
              go_wp2_with fail
              refine (unhide HI).mono ?_
              rintro e w6 ⟨rfl, hb6⟩
              have hl1 : ¬ 9223372036854775807 < 1 + (Lib.itoa x.a).length := by omega
              have hl2 : ¬ 9223372036854775807 < pre3.length + (1 + (Lib.itoa x.a).length) := by omega
              have hl3 : ¬ 9223372036854775807 < pre3.length + (1 + (Lib.itoa x.a).length) + 1 := by omega
              have I6 := hide ((unhide I5).below hb6)
              have HBL6 := hide ((unhide HBL5).trans (hb6.mono (unhide HBL5).size))
              have HJV6 := hide ((unhide HJV5).below hb6)
              clear hb6 HI I5 HBL5 HJV5 d1 d2 d3 
              have HFV := hide ((congrArg Value.string (ap3 pre3 [32] (Lib.itoa x.a) [10])).trans (congrArg tx (show _ = txtT ts (l.take (k + 1)) by rw [unhide HST, unhide HOT]; simp)))
              clear HST HOT
              go_wp2_with fail
              go_roundw
              case rel => exact ⟨k + 1, by omega, by go_num, unhide HFV, by rw [unhide HRE]; exact HJV6, HBL6⟩
              case measure => simp [intOf]; omega
            · skip
              have HJU := hide (refJumps_any x.op w5)
              rw [show (decide (x.op = 19) || decide (x.op = 20)) = false from hj] at HJU
              have HOT : Hid (opsT x.op x.a x.b = [32] ++ Lib.itoa x.a ++ ([32] ++ Lib.itoa x.b)) := hide (by unfold opsT; rw [hj, hn]; simp)
              rw [hn] at HOP
              clear hj hn
              go_wp2_with fail
              refine (unhide HOP).mono ?_
              rintro e w6 ⟨rfl, hw⟩
              rw [hw]
              clear hw w6 HOP
              go_wp2_with fail
              refine (unhide HJU).mono ?_
              rintro e w6 ⟨rfl, hw⟩
              rw [hw]
              clear hw w6 HJU
              obtain ⟨d1, d2, d3⟩ := (unhide I5).c
              have HI := hide (Itoa_any x.a (unhide HFX).a0 (unhide HFX).a1 w5 (unhide HPB _ (unhide HBL5)))
              have hla := itoa_len x.a (unhide HFX).a0 (unhide HFX).a1
              go_wp2_with fail
              refine (unhide HI).mono ?_
              rintro e w6 ⟨rfl, hb6⟩
              have hl1 : ¬ 9223372036854775807 < 1 + (Lib.itoa x.a).length := by omega
              have hl2 : ¬ 9223372036854775807 < pre3.length + (1 + (Lib.itoa x.a).length) := by omega
              have hl3 : ¬ 9223372036854775807 < pre3.length + (1 + (Lib.itoa x.a).length) + 1 := by omega
              have I6 := hide ((unhide I5).below hb6)
              have HBL6 := hide ((unhide HBL5).trans (hb6.mono (unhide HBL5).size))
              have HJV6 := hide ((unhide HJV5).below hb6)
              clear hb6 HI I5 HBL5 HJV5 d1 d2 d3 
              have d3 := (unhide I6).c.2.2
              have hb0 := (unhide HFX).b0
              have hb1 := (unhide HFX).b1
              have HI := hide (Itoa_any x.b (by omega) (by omega) w6 (unhide HPB _ (unhide HBL6)))
              have hlb := itoa_len x.b (by omega) (by omega)
              go_wp2_with fail
              refine (unhide HI).mono ?_
              rintro e w7 ⟨rfl, hb7⟩
              have hl4 : ¬ 9223372036854775807 < 1 + (Lib.itoa x.b).length := by omega
              have hl5 : ¬ 9223372036854775807 < pre3.length + (1 + (Lib.itoa x.a).length) + (1 + (Lib.itoa x.b).length) := by omega
              have hl6 : ¬ 9223372036854775807 < pre3.length + (1 + (Lib.itoa x.a).length) + (1 + (Lib.itoa x.b).length) + 1 := by omega
              have HBL7 := hide ((unhide HBL6).trans (hb7.mono (unhide HBL6).size))
              have HJV7 := hide ((unhide HJV6).below hb7)
              clear hb7 HI I6 HBL6 HJV6 d3 hl1 hl2 hl3 hla hlb
              have HFV := hide ((congrArg Value.string (ap5 pre3 [32] (Lib.itoa x.a) [32] (Lib.itoa x.b) [10])).trans (congrArg tx (show _ = txtT ts (l.take (k + 1)) by rw [unhide HST, unhide HOT]; simp)))
              clear HST HOT
              go_wp2_with fail
              go_roundw
              case rel => exact ⟨k + 1, by omega, by go_num, unhide HFV, by rw [unhide HRE]; exact HJV7, HBL7⟩
              case measure => simp [intOf]; omega
        · obtain rfl : k = l.length := by omega
          rw [List.take_length]
          have HE := hide ((unhide HB2).trans ((unhide HBL).mono (unhide HB2).size))
          clear HBL HJV
          go_wp2
          go_ret3
          rw [unhide HR]
          exact ⟨rfl, unhide HE⟩
end Go.Proofs.YthdgbdjagjagpaaGreatDoor

/-
  The law's own words: a label with a prefix, an instruction's line. Conditions: the tables are laid, lengths fit.
-/
namespace Go.Proofs.YthdgbdjagjagpaaGreatDoor
open Go.RowKit
set_option maxRecDepth 20000
set_option linter.unusedVariables false
set_option linter.unusedSimpArgs false

theorem ap4 (a b c d e : List UInt8) : (⟨a.toArray⟩ : ByteArray) ++ (⟨b.toArray⟩ : ByteArray) ++ (⟨c.toArray⟩ : ByteArray) ++ (⟨d.toArray⟩ : ByteArray) ++ (⟨e.toArray⟩ : ByteArray) = ⟨(a ++ b ++ c ++ d ++ e).toArray⟩ := by rw [ba_app, ba_app, ba_app, ba_app]
/-- An instruction's line, its label of another name. -/
def lineN (pf : List UInt8) (x : Ix) : List UInt8 :=
  [9] ++ nmL x.op ++ (if jmpN x.op then [32, 32] ++ (pf ++ Lib.itoa x.a) ++ [59, 120] else (if 0 < opnN x.op then [9] ++ Lib.itoa x.a else []) ++ (if opnN x.op = 2 then [32, 32] ++ Lib.itoa x.b else []) ++ [32])
end Go.Proofs.YthdgbdjagjagpaaGreatDoor

/-
  The law's renamed text of code. Conditions: the tables are laid, lengths fit.
-/
namespace Go.Proofs.YthdgbdjagjagpaaGreatDoor
open Go.RowKit
set_option maxRecDepth 20000
set_option linter.unusedVariables false
set_option linter.unusedSimpArgs false

def hereT (pf : List UInt8) (p : Int) : List UInt8 := [9] ++ (pf ++ Lib.itoa p) ++ [58, 32, 59, 32, 104, 101, 114, 101, 10]
def remarkT (i : Nat) : List UInt8 := [10, 32, 32, 59, 32] ++ Lib.itoa (i : Int) ++ [10]
def renS (pf : List UInt8) (kk : Nat) (ts : List Int) (x : Ix) (i : Nat) : List UInt8 := (if x.p ∈ ts then hereT pf x.p else []) ++ (if (i + kk) % 3 = 0 then remarkT i else []) ++ (lineN pf x ++ [10])
def renT (pf : List UInt8) (kk : Nat) (ts : List Int) (l : List Ix) : List UInt8 := l.zipIdx.flatMap fun y => renS pf kk ts y.1 y.2
theorem renT_snoc (pf : List UInt8) (kk : Nat) (ts : List Int) (l : List Ix) (x : Ix) : renT pf kk ts (l ++ [x]) = renT pf kk ts l ++ renS pf kk ts x l.length := by
  unfold renT
  rw [List.zipIdx_append, List.flatMap_append]
  simp
theorem lineN_len {pf : List UInt8} {x : Ix} (h : FitX x) (hp : pf.length ≤ 1000) : (lineN pf x).length ≤ 1200 := by
  have h1 := itoa_len x.a h.a0 h.a1
  have h2 := itoa_len x.b (by have := h.b0; omega) (by have := h.b1; omega)
  have h3 := nm_len x.op
  unfold lineN
  rw [List.length_append, List.length_append]
  split
  · simp; omega
  · split <;> split <;> simp <;> omega
theorem here_len {pf : List UInt8} {x : Ix} (h : FitX x) (hp : pf.length ≤ 1000) : (hereT pf x.p).length ≤ 1100 := by
  have h1 := itoa_len x.p (by have := h.p0; omega) (by have := h.p1; omega)
  unfold hereT
  simp
  omega
theorem remark_len {i : Nat} (h : i ≤ 4097) : (remarkT i).length ≤ 40 := by
  have h1 := itoa_len (i : Int) (by omega) (by omega)
  unfold remarkT
  simp
  omega
theorem renS_len {pf : List UInt8} {kk : Nat} {ts : List Int} {x : Ix} {i : Nat} (h : FitX x) (hp : pf.length ≤ 1000) (hi : i ≤ 4097) : (renS pf kk ts x i).length ≤ 2400 := by
  have h1 := lineN_len h hp
  have h2 := here_len h hp
  have h3 := remark_len hi
  unfold renS
  rw [List.length_append, List.length_append, List.length_append]
  split <;> split <;> simp <;> omega
theorem renT_len {pf : List UInt8} {kk : Nat} {ts : List Int} (hp : pf.length ≤ 1000) : ∀ (n : Nat) (l : List Ix), l.length = n → n ≤ 4097 → (∀ x ∈ l, FitX x) → (renT pf kk ts l).length ≤ 2400 * n := by
  intro n
  induction n with
  | zero => intro l hl _ _; obtain rfl := List.eq_nil_of_length_eq_zero hl; simp [renT]
  | succ n ih =>
    intro l hl hn hf
    have hne : l ≠ [] := by intro e; subst e; simp at hl
    have e := List.dropLast_concat_getLast hne
    have hl2 : l.dropLast.length = n := by simp; omega
    rw [← e, renT_snoc, List.length_append]
    have h1 := ih l.dropLast hl2 (by omega) (fun x hx => hf x (List.dropLast_subset l hx))
    have h2 := renS_len (pf := pf) (kk := kk) (ts := ts) (x := l.getLast hne) (i := l.dropLast.length) (hf _ (List.getLast_mem hne)) hp (by omega)
    omega
theorem ap3b (a b c d : List UInt8) : (⟨a.toArray⟩ : ByteArray) ++ ((⟨b.toArray⟩ : ByteArray) ++ (⟨c.toArray⟩ : ByteArray) ++ (⟨d.toArray⟩ : ByteArray)) = ⟨(a ++ (b ++ c ++ d)).toArray⟩ := by rw [ba_app, ba_app, ba_app]
end Go.Proofs.YthdgbdjagjagpaaGreatDoor
