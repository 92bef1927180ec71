/-
  asm's instruction: an instruction's words. Conditions: the tables are laid, the operands fit.
-/
import Derived.Test.YthdgbdjagjagpaaDoorAs1
import Derived.Test.YthdgbdjagjagpaaDoorIn3
import Derived.Laws.AppendOwnNone
import Derived.Deep.Cut
import Derived.Test.YthdgbdjagjagpaaDoorBx1
namespace Go.Proofs.YthdgbdjagjagpaaDoor
open Go.RowKit
set_option maxRecDepth 20000
set_option linter.unusedVariables false
set_option linter.unusedSimpArgs false

/-- A row of texts of one's own. -/
def OwnL (w : World) (base : Nat) (v : Value) (N : List (List UInt8)) : Prop := w.ownsRow base 9 1 v N.length (N.map tx)
theorem OwnL.atL {w : World} {base : Nat} {v : Value} {N : List (List UInt8)} (h : OwnL w base v N) (hn : 0 < N.length) : ∃ g cap, v = .slice (some ⟨g, 0, none⟩) N.length cap ∧ N.length ≤ cap ∧ g < w.heap.size ∧ ∀ (i : Nat) x, N[i]? = some x → w.cell? ⟨g, i, none⟩ = some (tx x) := by
  rcases h.2 with ⟨h1, h2⟩ | ⟨g, cap, cur, rfl, hb, hh, hn, hm, hsz, ht⟩
  · omega
  · refine ⟨g, cap, rfl, hn, (Array.getElem?_eq_some_iff.1 hh).1, fun i x hx => ?_⟩
    have hi := (List.getElem?_eq_some_iff.1 hx).1
    rw [World.ownsRow.cellAt h i (by omega), List.getElem?_map, hx]
    rfl
theorem OwnL.belowL {w w' : World} {base : Nat} {v : Value} {N : List (List UInt8)} (h : OwnL w base v N) (hb : Below w.heap.size w w') : OwnL w' base v N := by
  refine ⟨h.1, ?_⟩
  rcases h.2 with h1 | ⟨g, cap, cur, hv, hbg, hh, r⟩
  · exact Or.inl h1
  · exact Or.inr ⟨g, cap, cur, hv, hbg, by rw [hb.block g (Array.getElem?_eq_some_iff.1 hh).1]; exact hh, r⟩
theorem OwnL.one (w : World) (B : Nat) (hB : B ≤ w.heap.size) (x : List UInt8) : OwnL (w.alloc (.cells #[tx x] 9)) B (.slice (some ⟨w.heap.size, 0, none⟩) 1 1) [x] :=
  ⟨rfl, Or.inr ⟨w.heap.size, 1, #[tx x], rfl, hB, heap_alloc_new w _, Nat.le_refl _, by unfold maxLen; omega, rfl, rfl⟩⟩
theorem OwnL.ne {w : World} {base g : Nat} {v : Value} {N : List (List UInt8)} {t : TypeId} {cs : Array Value} (h : OwnL w base v N) (hx : Bx w g t cs) (ht : t ≠ 9) : v.ownBlock ≠ some g := by
  intro e
  rcases h.2 with ⟨h1, _⟩ | ⟨g', cap, cur, rfl, _, hh, _⟩
  · rw [h1] at e; cases e
  · injection e with e
    subst e
    have hx : w.heap[g']? = some (.cells cs t (0, 0)) := hx
    rw [hx] at hh
    injection hh with hh
    injection hh with _ hh
    exact ht hh
theorem below_dL (w : World) (n : Nat) : Below w.heap.size w (w.drewN n) := ⟨rfl, rfl, rfl, Nat.le_refl _, fun _ _ => rfl⟩
theorem infoStX : (Tryd.prog.info? 9).map (fun i => (i.zero, i.size, i.bytes)) = some (some (.string ⟨#[]⟩), 1, 16) := by kernel_rfl
theorem cell_newX (w : World) (x : List UInt8) : ∀ (j : Nat) u, [tx x][j]? = some u → (w.alloc (.cells #[tx x] 9)).cell? ((⟨w.heap.size, 0, none⟩ : Addr).add j) = some u := by
  intro j u hu
  match j, hu with
  | 0, hu => injection hu with hu; subst hu; exact (cell_of_row _ _ _ _ _ _ (heap_alloc_new w _)).trans rfl
/-- An instruction's words. -/
def nmL (op : Nat) : List UInt8 := (nmD op).data.toList
def jmpN (op : Nat) : Bool := decide (op = 19) || decide (op = 20)
def insW (op : Nat) (a b : Int) : List (List UInt8) := nmL op :: (if jmpN op then [labL a] else ([Lib.itoa a, Lib.itoa b].take (opnN op)))
theorem nm_tx (op : Nat) : Value.string (nmD op) = tx (nmL op) := by
  unfold nmL
  show _ = Value.string ⟨((nmD op).data.toList).toArray⟩
  rw [Array.toArray_toList]
set_option maxHeartbeats 4000000 in
theorem instruction_any (p : Int) (op : Nat) (a b : Int) (w : World) (ho : op < 256) (ha0 : -9223372036854775808 ≤ a) (ha1 : a ≤ 9223372036854775807) (hb0 : -9223372036854775808 ≤ b) (hb1 : b ≤ 9223372036854775807) (hW : WidAt w) (hC : WordsC w) (hP : PwT w) :
    Calls Tryd.prog 21 #[.agg #[.int .i64 p, .int .u8 (op : Int), .int .i64 a, .int .i64 b]] w fun e w' => ∃ v, e = .returned v ∧ OwnL w' w.heap.size v (insW op a b) ∧ Below w.heap.size w w' := by
  obtain ⟨i0, hi0, hz0, hz1, hz2⟩ := info_parts infoStX
  have al : Below w.heap.size w (w.alloc (.cells #[.int .i64 p, .int .u8 (op : Int), .int .i64 a, .int .i64 b] 48)) := (Below.refl _ _).alloc (Nat.le_refl _) _
  have HI : Hid (IAt (w.alloc (.cells #[.int .i64 p, .int .u8 (op : Int), .int .i64 a, .int .i64 b] 48)) w.heap.size p op a b) := hide (heap_alloc_new w _)
  have HB := hide al
  have HW := hide (hW.below al)
  have HC := hide (hC.below al)
  have HP := hide (hP.below al)
  have HPw := hide hP
  clear al hW hC hP
  go_enter Tryd.func21, Tryd.ntmps21
  go_upto_region 1 with fail
  generalize (w.alloc (.cells #[.int .i64 p, .int .u8 (op : Int), .int .i64 a, .int .i64 b] 48)) = W1 at HI HB HW HC HP ⊢
  obtain ⟨q1, q2, q3⟩ := (unhide HI).c
  have HN := hide (Name_any op W1 (unhide HC) ho)
  go_wp2_with fail
  refine (unhide HN).mono ?_
  rintro e W2 ⟨rfl, hw⟩
  rw [hw, nm_tx]
  clear hw W2 HN
  have al : Below W1.heap.size W1 (W1.alloc (.cells #[tx (nmL op)] 9)) := (Below.refl _ _).alloc (Nat.le_refl _) _
  have HO := hide (OwnL.one W1 w.heap.size (unhide HB).size (nmL op))
  have HI2 := hide ((unhide HI).below al)
  have HB2 := hide ((unhide HB).trans (al.mono (unhide HB).size))
  have HW2 := hide ((unhide HW).below al)
  have HP2 := hide ((unhide HP).below al)
  clear al HI HB HW HC HP q1 q2 q3
  go_upto_region 2 with fail
  generalize (W1.alloc (.cells #[tx (nmL op)] 9)) = W2 at HO HI2 HB2 HW2 HP2 ⊢
  generalize W1.heap.size = g1 at HO ⊢
  obtain ⟨q1, q2, q3⟩ := (unhide HI2).c
  have HJ := hide (Jumps_any op W2)
  go_wp2_with fail
  refine (unhide HJ).mono ?_
  rintro e W3 ⟨rfl, hw⟩
  rw [hw]
  clear hw W3 HJ
  cases hj : jmpN op with
  | true =>
    have hj2 : (decide (op = 19) || decide (op = 20)) = true := hj
    have HR : Hid (insW op a b = [nmL op] ++ [labL a]) := hide (by unfold insW; rw [hj]; rfl)
    have HL := hide (label_any a ha0 ha1 W2 (unhide HP2))
    rw [hj2]
    clear hj hj2
    go_wp2_with fail
    refine (unhide HL).mono ?_
    rintro e W3 ⟨rfl, hb⟩
    have al : Below W3.heap.size W3 (W3.alloc (.cells #[tx (labL a)] 9)) := (Below.refl _ _).alloc (Nat.le_refl _) _
    have HO3 := hide (((unhide HO).belowL hb).belowL al)
    have HB3 := hide (((unhide HB2).trans (hb.mono (unhide HB2).size)).trans (al.mono (Nat.le_trans (unhide HB2).size hb.size)))
    have HON := hide (cell_newX W3 (labL a))
    have hsz : w.heap.size ≤ W3.heap.size := Nat.le_trans (unhide HB2).size hb.size
    clear hb al HL HO HB2 q1 q2 q3
    go_wp2_with (at_builtin; refine wpList_append_own _ rfl _ _ 56 rfl w.heap.size 9 i0 _ 1 16 Tryd.underlying56 hi0 hz0 hz1 hz2 rfl (by decide) _ 1 [tx (nmL op)] rfl (unhide HO3) ⟨W3.heap.size, 0, none⟩ 1 1 [tx (labL a)] rfl rfl (unhide HON) (by simp [Value.oneCell']) ?a3 ?a4 ?a5 ?_)
    case a3 => unfold maxLen; omega
    case a4 => omega
    case a5 => simp; omega
    intro v' w' hO hG _
    have HO4 : Hid (OwnL w' w.heap.size v' (insW op a b)) := hide (by rw [unhide HR]; exact hO)
    have HB4 := hide ((unhide HB3).grown hG (by simp; omega) (fun q e => (World.ownsRow.lt (unhide HO3) q e).1))
    clear hO hG HO3 HB3 HON
    go_wp2
    go_ret
    exact ⟨_, rfl, unhide HO4, unhide HB4⟩
  | false =>
    have hj2 : (decide (op = 19) || decide (op = 20)) = false := hj
    have HR : Hid (insW op a b = [nmL op] ++ ([Lib.itoa a, Lib.itoa b].take (opnN op))) := hide (by unfold insW; rw [hj]; rfl)
    rw [hj2]
    clear hj hj2
    have al : Below W2.heap.size W2 (W2.alloc (.cells #[.int .i64 a, .int .i64 b] 89)) := (Below.refl _ _).alloc (Nat.le_refl _) _
    have HA : Hid (Bx (W2.alloc (.cells #[.int .i64 a, .int .i64 b] 89)) W2.heap.size 89 #[.int .i64 a, .int .i64 b]) := hide (heap_alloc_new W2 _)
    have HO3 := hide ((unhide HO).belowL al)
    have HI3 := hide ((unhide HI2).below al)
    have HB3 := hide ((unhide HB2).trans (al.mono (unhide HB2).size))
    have HW3 := hide ((unhide HW2).below al)
    have HP3 := hide ((unhide HP2).below al)
    clear al HO HI2 HB2 HW2 HP2
    go_upto_region 5 with fail
    generalize (W2.alloc (.cells #[.int .i64 a, .int .i64 b] 89)) = W3 at HA HO3 HI3 HB3 HW3 HP3 ⊢
    generalize W2.heap.size = g4 at HA ⊢
    clear q1 q2 q3
    obtain ⟨q1, q2, q3⟩ := (unhide HI3).c
    have HN := hide (operands_any op W3 (unhide HW3) ho)
    obtain ⟨n, HNE⟩ : ∃ n, Hid (opnN op = n) := ⟨_, hide rfl⟩
    have hn2 : n ≤ 2 := by rw [← unhide HNE]; unfold opnN; split; omega; split <;> omega
    rw [unhide HNE] at HN HR
    have i2 : (n : Int) ≤ 2 := by omega
    go_wp2_with fail
    refine (unhide HN).mono ?_
    rintro e W4 ⟨rfl, k, hw⟩
    have hd : Below W3.heap.size W3 W4 := by rw [hw]; exact below_dL _ _
    have HA4 := hide ((unhide HA).below hd)
    have HO4 := hide ((unhide HO3).belowL hd)
    have HB4 := hide ((unhide HB3).trans (hd.mono (unhide HB3).size))
    have HP4 := hide ((unhide HP3).below hd)
    clear hw hd HA HO3 HI3 HB3 HW3 HP3 HN q1 q2 q3
    go_wp2_with fail
    go_loopw [3, 30] (fun v i wr => ∃ (q : Nat), q ≤ n ∧ i = .int .i64 (q : Int) ∧ Hid (OwnL wr w.heap.size v ([nmL op] ++ [Lib.itoa a, Lib.itoa b].take q)) ∧ Hid (Bx wr g4 89 #[.int .i64 a, .int .i64 b]) ∧ Hid (PwT wr) ∧ Hid (Below w.heap.size w wr)) (fun _ i _ => n - (intOf i).toNat)
    case atStart => exact ⟨0, by omega, rfl, HO4, HA4, HP4, HB4⟩
    case round =>
      clear HA4 HO4 HB4 HP4
      obtain ⟨q, hq, rfl, HO, HA, HP, HB⟩ := hrel
      by_cases hlt : q < n
      · have j1 : ((q : Nat) : Int) < ((n : Nat) : Int) := by omega
        obtain ⟨x, hx, hc, hx0, hx1⟩ : ∃ x : Int, [Lib.itoa a, Lib.itoa b].take (q + 1) = [Lib.itoa a, Lib.itoa b].take q ++ [Lib.itoa x] ∧ wr.cell? ⟨g4, q, none⟩ = some (.int .i64 x) ∧ -9223372036854775808 ≤ x ∧ x ≤ 9223372036854775807 := by
          rcases (show q = 0 ∨ q = 1 by omega) with rfl | rfl
          · exact ⟨a, rfl, (unhide HA).c 0 rfl, ha0, ha1⟩
          · exact ⟨b, rfl, (unhide HA).c 1 rfl, hb0, hb1⟩
        have HX := hide hx
        have HI := hide (Itoa_any x hx0 hx1 wr (unhide HP))
        obtain ⟨gv, cv, rfl, _, _, _⟩ := (unhide HO).atL (by simp)
        have hln : ([nmL op] ++ [Lib.itoa a, Lib.itoa b].take q).length = q + 1 := by simp; omega
        rw [hln]
        clear hx
        go_wp2_with fail
        refine (unhide HI).mono ?_
        rintro e W5 ⟨rfl, hb⟩
        have al : Below W5.heap.size W5 (W5.alloc (.cells #[tx (Lib.itoa x)] 9)) := (Below.refl _ _).alloc (Nat.le_refl _) _
        have hb2 := hb.trans (al.mono hb.size)
        have HO5 := hide ((unhide HO).belowL hb2)
        have HB5 := hide ((unhide HB).trans (hb2.mono (unhide HB).size))
        have HP5 := hide ((unhide HP).below hb2)
        have HA5 := hide ((unhide HA).below hb2)
        have HON := hide (cell_newX W5 (Lib.itoa x))
        have hsz : w.heap.size ≤ W5.heap.size := Nat.le_trans (unhide HB).size hb.size
        rw [hln] at HO5
        clear hb hb2 al HI HO HB HP HA hc
        go_wp2_with (at_builtin; refine wpList_append_own _ rfl _ _ 56 rfl w.heap.size 9 i0 _ 1 16 Tryd.underlying56 hi0 hz0 hz1 hz2 rfl (by decide) _ (q + 1) (([nmL op] ++ [Lib.itoa a, Lib.itoa b].take q).map tx) rfl (by have h := unhide HO5; unfold OwnL at h; rw [hln] at h; exact h) ⟨W5.heap.size, 0, none⟩ 1 1 [tx (Lib.itoa x)] rfl rfl (unhide HON) (by simp [Value.oneCell']) ?b3 ?b4 ?b5 ?_)
        case b3 => unfold maxLen; omega
        case b4 => omega
        case b5 => simp; omega
        intro v' w' hO hG _
        have HO6 : Hid (OwnL w' w.heap.size v' ([nmL op] ++ [Lib.itoa a, Lib.itoa b].take (q + 1))) := hide (by
          unfold OwnL
          have e1 : ([nmL op] ++ [Lib.itoa a, Lib.itoa b].take (q + 1)) = ([nmL op] ++ [Lib.itoa a, Lib.itoa b].take q) ++ [Lib.itoa x] := by rw [unhide HX, List.append_assoc]
          rw [e1, List.length_append, hln, List.map_append]
          simpa [List.map_append, List.map_take] using hO)
        have HA6 := hide ((unhide HA5).grown hG ((unhide HO5).ne (unhide HA5) (by decide)))
        have HB6 := hide ((unhide HB5).grown hG (by simp; omega) (fun q e => (World.ownsRow.lt (unhide HO5) q e).1))
        have HP6 : Hid (PwT w') := hide ((unhide HPw).below (unhide HB6))
        clear hO hG HO5 HA5 HB5 HP5 HON HX
        go_wp2
        go_roundw
        case rel => exact ⟨q + 1, by omega, by go_num, HO6, HA6, HP6, HB6⟩
        case measure => simp [intOf]; omega
      · have j1 : ¬ ((q : Nat) : Int) < ((n : Nat) : Int) := by omega
        have eq : q = n := by omega
        have e3 : ([nmL op] ++ [Lib.itoa a, Lib.itoa b].take q) = insW op a b := by rw [unhide HR, ← eq]
        have HOf := HO
        rw [e3] at HOf
        clear HO HA HP eq e3
        go_wp2
        go_ret
        exact ⟨_, rfl, unhide HOf, unhide HB⟩
end Go.Proofs.YthdgbdjagjagpaaDoor
