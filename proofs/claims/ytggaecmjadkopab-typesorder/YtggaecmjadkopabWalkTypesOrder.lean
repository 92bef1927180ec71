/-
  The walk of the law TypesOrder: it returns true for every table and every three types, and writes nothing that was there.
-/
import Derived.Test.YtggaecmjadkopabSub
import Derived.Test.YtggaecmjadkopabT02d
namespace Go.Proofs.Ytggaecmjadkopab
open Go.RowKit

theorem lawValid_any (ao : Option Addr) (n cap t : Nat) (w : World) (ht : t < 256) :
    Calls Try.prog 23 #[.slice ao n cap, .int .u8 (t : Int)] w fun e w' => e = .returned (.bool (validD n t)) ∧ w' = w := by
  by_cases h1 : t ≤ 5
  · have HR := hide (validD_lo (n := n) h1)
    have i1 : ((t : Nat) : Int) ≤ 5 := by omega
    go_enter Try.func23, Try.ntmps23
    go_wp2
    go_ret
    exact ⟨ret_bool (unhide HR).symm, rfl⟩
  · have i1 : ¬ ((t : Nat) : Int) ≤ 5 := by omega
    by_cases h2 : 16 ≤ t
    · have i2 : ((t : Nat) : Int) ≥ 16 := by omega
      have HR : Hid (validD n t = decide ((t : Int) - 16 < (n : Int))) := hide (by unfold validD; rw [decide_eq_decide]; omega)
      go_enter Try.func23, Try.ntmps23
      go_wp2
      go_ret
      refine ⟨ret_bool ?_, rfl⟩
      rw [unhide HR]
    · have i2 : ¬ ((t : Nat) : Int) ≥ 16 := by omega
      have HR := hide (validD_no (n := n) h1 (by omega))
      go_enter Try.func23, Try.ntmps23
      go_wp2
      go_ret
      exact ⟨ret_bool (unhide HR).symm, rfl⟩

theorem sub_null {T : List Cl} : subD T 3 5 = true := subD_iff.2 ⟨by omega, by omega, .inr (.inr (.inl ⟨rfl, by omega⟩))⟩
theorem awake_any (ao : Option Addr) (cap : Nat) (T : List Cl) (w : World) (hT : TabAt w ao T) :
    Calls Try.prog 22 #[.slice ao T.length cap] w fun e w' => e = .returned (.bool true) ∧ Below w.heap.size w w' := by
  go_enter Try.func22, Try.ntmps22
  go_wp2_with fail
  refine (Sub_any ao cap T 3 5 _ hT (by omega) (by omega)).mono ?_
  rintro e w1 ⟨rfl, hB⟩
  rw [sub_null]
  go_wp2_with fail
  refine (Valid_any ao T.length cap 1 _ (by omega)).mono ?_
  rintro e w2 ⟨rfl, rfl⟩
  rw [validD_lo (by omega)]
  go_wp2
  go_ret
  exact ⟨rfl, hB⟩

/-- The box that holds the argument. -/
structure At3 (w W : World) (B : Nat) (ao : Option Addr) (T : List Cl) (a b c : Nat) : Prop where
  c1 : W.cell? ⟨B, 1, none⟩ = some (.int .u8 (a : Int))
  c2 : W.cell? ⟨B, 2, none⟩ = some (.int .u8 (b : Int))
  c3 : W.cell? ⟨B, 3, none⟩ = some (.int .u8 (c : Int))
  tab : TabAt W ao T
  bel : Below w.heap.size w W
theorem At3.below {w W W' : World} {B : Nat} {ao : Option Addr} {T : List Cl} {a b c : Nat} (h : At3 w W B ao T a b c) (hb : Below W.heap.size W W') : At3 w W' B ao T a b c := by
  have hl : B < W.heap.size := World.block_lt_of_cell? W _ h.c1
  exact ⟨(hb.cell (p := ⟨B, 1, none⟩) hl).trans h.c1, (hb.cell (p := ⟨B, 2, none⟩) hl).trans h.c2, (hb.cell (p := ⟨B, 3, none⟩) hl).trans h.c3, h.tab.below hb, h.bel.trans (hb.mono h.bel.size)⟩

set_option maxHeartbeats 4000000 in
theorem walkTypesOrder {w : World} (ao : Option Addr) (cap : Nat) (T : List Cl) (a b c : Nat) (hT : TabAt w ao T) (hz : T.length * 48 ≤ 140737488351232) (ha : a < 256) (hb : b < 256) (hc : c < 256) :
    Calls Try.prog 5 #[.agg #[.slice ao T.length cap, .int .u8 (a : Int), .int .u8 (b : Int), .int .u8 (c : Int)]] w fun e w' => e = .returned (.bool true) ∧ Below w.heap.size w w' := by
  have HT := hide hT
  have HZ := hide hz
  clear hT hz
  go_enter Try.func5, Try.ntmps5
  go_wp2_with fail
  obtain ⟨B, HB⟩ : ∃ B, Hid (w.heap.size = B) := ⟨_, hide rfl⟩
  obtain ⟨w1, HW1⟩ : ∃ w1, Hid (w.alloc (Obj.cells #[Value.slice ao T.length cap, Value.int IntKind.u8 (a : Int), Value.int IntKind.u8 (b : Int), Value.int IntKind.u8 (c : Int)] 54) = w1) := ⟨_, hide rfl⟩
  have H1 : Hid (At3 w w1 B ao T a b c) := hide (by
    have hrow : w1.heap[B]? = some (.cells #[Value.slice ao T.length cap, Value.int IntKind.u8 (a : Int), Value.int IntKind.u8 (b : Int), Value.int IntKind.u8 (c : Int)] 54) := by rw [← unhide HW1, ← unhide HB]; exact heap_alloc_new w _
    have hB1 : Below w.heap.size w w1 := by rw [← unhide HW1]; exact (Below.refl _ _).alloc (Nat.le_refl _) _
    exact ⟨by rw [cell_of_row _ _ _ _ _ _ hrow]; rfl, by rw [cell_of_row _ _ _ _ _ _ hrow]; rfl, by rw [cell_of_row _ _ _ _ _ _ hrow]; rfl, (unhide HT).below hB1, hB1⟩)
  rw [unhide HW1, unhide HB]
  clear HW1 HB HT
  refine (Made_any ao cap T _ (unhide H1).tab (unhide HZ)).mono ?_
  rintro e w2 ⟨rfl, hB⟩
  have H2 := hide ((unhide H1).below hB)
  clear H1 hB
  cases madeD T with
  | false =>
    go_wp2
    go_ret
    exact ⟨rfl, (unhide H2).bel⟩
  | true =>
    go_wp2_with fail
    refine (awake_any ao cap T _ (unhide H2).tab).mono ?_
    rintro e w3 ⟨rfl, hB⟩
    have H3 := hide ((unhide H2).below hB)
    clear H2 hB
    have c1 := (unhide H3).c1
    have c2 := (unhide H3).c2
    have c3 := (unhide H3).c3
    go_wp2_with fail
    refine (lawValid_any ao T.length cap a _ ha).mono ?_
    rintro e w3' ⟨rfl, rfl⟩
    clear c1 c2 c3
    by_cases va : validD T.length a = true
    · have SAA := hide (subD_iff.2 (Le.refl va))
      rw [va]
      clear va
      have c1 := (unhide H3).c1
      have c2 := (unhide H3).c2
      have c3 := (unhide H3).c3
      go_wp2_with fail
      refine (Sub_any ao cap T a a _ (unhide H3).tab (by omega) (by omega)).mono ?_
      rintro e w4 ⟨rfl, hB⟩
      have H4 := hide ((unhide H3).below hB)
      clear c1 c2 c3 hB H3
      rw [unhide SAA]
      clear SAA
      by_cases s1 : subD T a b = true
      · have S1 := hide s1
        by_cases s2 : subD T b c = true
        · have S2 := hide s2
          have S3 := hide (subD_iff.2 ((subD_iff.1 s1).trans (subD_iff.1 s2)))
          clear s1 s2
          have c1 := (unhide H4).c1
          have c2 := (unhide H4).c2
          have c3 := (unhide H4).c3
          go_wp2_with fail
          refine (Sub_any ao cap T a b _ (unhide H4).tab (by omega) (by omega)).mono ?_
          rintro e w5 ⟨rfl, hB⟩
          have H5 := hide ((unhide H4).below hB)
          clear c1 c2 c3 hB H4
          rw [unhide S1]
          have c1 := (unhide H5).c1
          have c2 := (unhide H5).c2
          have c3 := (unhide H5).c3
          go_wp2_with fail
          refine (Sub_any ao cap T b c _ (unhide H5).tab (by omega) (by omega)).mono ?_
          rintro e w6 ⟨rfl, hB⟩
          have H6 := hide ((unhide H5).below hB)
          clear c1 c2 c3 hB H5
          rw [unhide S2]
          have c1 := (unhide H6).c1
          have c2 := (unhide H6).c2
          have c3 := (unhide H6).c3
          go_wp2_with fail
          refine (Sub_any ao cap T a c _ (unhide H6).tab (by omega) (by omega)).mono ?_
          rintro e w7 ⟨rfl, hB⟩
          have H7 := hide ((unhide H6).below hB)
          clear c1 c2 c3 hB H6
          rw [unhide S3]
          clear S2 S3
          by_cases eab : a = b
          · have e1 : (((a : Nat) : Int) == ((b : Nat) : Int)) = true := beq_t (by omega)
            clear eab
            have c1 := (unhide H7).c1
            have c2 := (unhide H7).c2
            have c3 := (unhide H7).c3
            go_wp2
            go_ret
            exact ⟨rfl, (unhide H7).bel⟩
          · have e1 : (((a : Nat) : Int) == ((b : Nat) : Int)) = false := beq_f (by omega)
            by_cases sab : subD T a b = true
            · have sba : subD T b a = false := by
                cases hh : subD T b a with
                | false => rfl
                | true => exact absurd ((subD_iff.1 sab).antisymm (subD_iff.1 hh)) eab
              have SAB := hide sab
              have SBA := hide sba
              clear sab sba eab
              have c1 := (unhide H7).c1
              have c2 := (unhide H7).c2
              have c3 := (unhide H7).c3
              go_wp2_with fail
              refine (Sub_any ao cap T a b _ (unhide H7).tab (by omega) (by omega)).mono ?_
              rintro e wp ⟨rfl, hB⟩
              have Hp := hide ((unhide H7).below hB)
              clear c1 c2 c3 hB H7
              rw [unhide SAB]
              have c1 := (unhide Hp).c1
              have c2 := (unhide Hp).c2
              have c3 := (unhide Hp).c3
              go_wp2_with fail
              refine (Sub_any ao cap T b a _ (unhide Hp).tab (by omega) (by omega)).mono ?_
              rintro e wq ⟨rfl, hB⟩
              have Hq := hide ((unhide Hp).below hB)
              clear c1 c2 c3 hB Hp
              rw [unhide SBA]
              go_wp2
              go_ret
              exact ⟨rfl, (unhide Hq).bel⟩
            · have sab' : subD T a b = false := by simpa using sab
              have SAB := hide sab'
              clear sab sab' eab
              have c1 := (unhide H7).c1
              have c2 := (unhide H7).c2
              have c3 := (unhide H7).c3
              go_wp2_with fail
              refine (Sub_any ao cap T a b _ (unhide H7).tab (by omega) (by omega)).mono ?_
              rintro e wp ⟨rfl, hB⟩
              have Hp := hide ((unhide H7).below hB)
              clear c1 c2 c3 hB H7
              rw [unhide SAB]
              go_wp2
              go_ret
              exact ⟨rfl, (unhide Hp).bel⟩
        · have S2 : Hid (subD T b c = false) := hide (by simpa using s2)
          clear s1 s2
          have c1 := (unhide H4).c1
          have c2 := (unhide H4).c2
          have c3 := (unhide H4).c3
          go_wp2_with fail
          refine (Sub_any ao cap T a b _ (unhide H4).tab (by omega) (by omega)).mono ?_
          rintro e w5 ⟨rfl, hB⟩
          have H5 := hide ((unhide H4).below hB)
          clear c1 c2 c3 hB H4
          rw [unhide S1]
          have c1 := (unhide H5).c1
          have c2 := (unhide H5).c2
          have c3 := (unhide H5).c3
          go_wp2_with fail
          refine (Sub_any ao cap T b c _ (unhide H5).tab (by omega) (by omega)).mono ?_
          rintro e w6 ⟨rfl, hB⟩
          have H6 := hide ((unhide H5).below hB)
          clear c1 c2 c3 hB H5
          rw [unhide S2]
          clear S2
          by_cases eab : a = b
          · have e1 : (((a : Nat) : Int) == ((b : Nat) : Int)) = true := beq_t (by omega)
            clear eab
            have c1 := (unhide H6).c1
            have c2 := (unhide H6).c2
            have c3 := (unhide H6).c3
            go_wp2
            go_ret
            exact ⟨rfl, (unhide H6).bel⟩
          · have e1 : (((a : Nat) : Int) == ((b : Nat) : Int)) = false := beq_f (by omega)
            by_cases sab : subD T a b = true
            · have sba : subD T b a = false := by
                cases hh : subD T b a with
                | false => rfl
                | true => exact absurd ((subD_iff.1 sab).antisymm (subD_iff.1 hh)) eab
              have SAB := hide sab
              have SBA := hide sba
              clear sab sba eab
              have c1 := (unhide H6).c1
              have c2 := (unhide H6).c2
              have c3 := (unhide H6).c3
              go_wp2_with fail
              refine (Sub_any ao cap T a b _ (unhide H6).tab (by omega) (by omega)).mono ?_
              rintro e wp ⟨rfl, hB⟩
              have Hp := hide ((unhide H6).below hB)
              clear c1 c2 c3 hB H6
              rw [unhide SAB]
              have c1 := (unhide Hp).c1
              have c2 := (unhide Hp).c2
              have c3 := (unhide Hp).c3
              go_wp2_with fail
              refine (Sub_any ao cap T b a _ (unhide Hp).tab (by omega) (by omega)).mono ?_
              rintro e wq ⟨rfl, hB⟩
              have Hq := hide ((unhide Hp).below hB)
              clear c1 c2 c3 hB Hp
              rw [unhide SBA]
              go_wp2
              go_ret
              exact ⟨rfl, (unhide Hq).bel⟩
            · have sab' : subD T a b = false := by simpa using sab
              have SAB := hide sab'
              clear sab sab' eab
              have c1 := (unhide H6).c1
              have c2 := (unhide H6).c2
              have c3 := (unhide H6).c3
              go_wp2_with fail
              refine (Sub_any ao cap T a b _ (unhide H6).tab (by omega) (by omega)).mono ?_
              rintro e wp ⟨rfl, hB⟩
              have Hp := hide ((unhide H6).below hB)
              clear c1 c2 c3 hB H6
              rw [unhide SAB]
              go_wp2
              go_ret
              exact ⟨rfl, (unhide Hp).bel⟩
      · have S1 : Hid (subD T a b = false) := hide (by simpa using s1)
        clear s1
        have c1 := (unhide H4).c1
        have c2 := (unhide H4).c2
        have c3 := (unhide H4).c3
        go_wp2_with fail
        refine (Sub_any ao cap T a b _ (unhide H4).tab (by omega) (by omega)).mono ?_
        rintro e w5 ⟨rfl, hB⟩
        have H5 := hide ((unhide H4).below hB)
        clear c1 c2 c3 hB H4
        rw [unhide S1]
        by_cases eab : a = b
        · have e1 : (((a : Nat) : Int) == ((b : Nat) : Int)) = true := beq_t (by omega)
          clear eab
          have c1 := (unhide H5).c1
          have c2 := (unhide H5).c2
          have c3 := (unhide H5).c3
          go_wp2
          go_ret
          exact ⟨rfl, (unhide H5).bel⟩
        · have e1 : (((a : Nat) : Int) == ((b : Nat) : Int)) = false := beq_f (by omega)
          by_cases sab : subD T a b = true
          · have sba : subD T b a = false := by
              cases hh : subD T b a with
              | false => rfl
              | true => exact absurd ((subD_iff.1 sab).antisymm (subD_iff.1 hh)) eab
            have SAB := hide sab
            have SBA := hide sba
            clear sab sba eab
            have c1 := (unhide H5).c1
            have c2 := (unhide H5).c2
            have c3 := (unhide H5).c3
            go_wp2_with fail
            refine (Sub_any ao cap T a b _ (unhide H5).tab (by omega) (by omega)).mono ?_
            rintro e wp ⟨rfl, hB⟩
            have Hp := hide ((unhide H5).below hB)
            clear c1 c2 c3 hB H5
            rw [unhide SAB]
            have c1 := (unhide Hp).c1
            have c2 := (unhide Hp).c2
            have c3 := (unhide Hp).c3
            go_wp2_with fail
            refine (Sub_any ao cap T b a _ (unhide Hp).tab (by omega) (by omega)).mono ?_
            rintro e wq ⟨rfl, hB⟩
            have Hq := hide ((unhide Hp).below hB)
            clear c1 c2 c3 hB Hp
            rw [unhide SBA]
            go_wp2
            go_ret
            exact ⟨rfl, (unhide Hq).bel⟩
          · have sab' : subD T a b = false := by simpa using sab
            have SAB := hide sab'
            clear sab sab' eab
            have c1 := (unhide H5).c1
            have c2 := (unhide H5).c2
            have c3 := (unhide H5).c3
            go_wp2_with fail
            refine (Sub_any ao cap T a b _ (unhide H5).tab (by omega) (by omega)).mono ?_
            rintro e wp ⟨rfl, hB⟩
            have Hp := hide ((unhide H5).below hB)
            clear c1 c2 c3 hB H5
            rw [unhide SAB]
            go_wp2
            go_ret
            exact ⟨rfl, (unhide Hp).bel⟩
    · have va' : validD T.length a = false := by simpa using va
      rw [va']
      clear va va'
      by_cases s1 : subD T a b = true
      · have S1 := hide s1
        by_cases s2 : subD T b c = true
        · have S2 := hide s2
          have S3 := hide (subD_iff.2 ((subD_iff.1 s1).trans (subD_iff.1 s2)))
          clear s1 s2
          have c1 := (unhide H3).c1
          have c2 := (unhide H3).c2
          have c3 := (unhide H3).c3
          go_wp2_with fail
          refine (Sub_any ao cap T a b _ (unhide H3).tab (by omega) (by omega)).mono ?_
          rintro e w5 ⟨rfl, hB⟩
          have H5 := hide ((unhide H3).below hB)
          clear c1 c2 c3 hB H3
          rw [unhide S1]
          have c1 := (unhide H5).c1
          have c2 := (unhide H5).c2
          have c3 := (unhide H5).c3
          go_wp2_with fail
          refine (Sub_any ao cap T b c _ (unhide H5).tab (by omega) (by omega)).mono ?_
          rintro e w6 ⟨rfl, hB⟩
          have H6 := hide ((unhide H5).below hB)
          clear c1 c2 c3 hB H5
          rw [unhide S2]
          have c1 := (unhide H6).c1
          have c2 := (unhide H6).c2
          have c3 := (unhide H6).c3
          go_wp2_with fail
          refine (Sub_any ao cap T a c _ (unhide H6).tab (by omega) (by omega)).mono ?_
          rintro e w7 ⟨rfl, hB⟩
          have H7 := hide ((unhide H6).below hB)
          clear c1 c2 c3 hB H6
          rw [unhide S3]
          clear S2 S3
          by_cases eab : a = b
          · have e1 : (((a : Nat) : Int) == ((b : Nat) : Int)) = true := beq_t (by omega)
            clear eab
            have c1 := (unhide H7).c1
            have c2 := (unhide H7).c2
            have c3 := (unhide H7).c3
            go_wp2
            go_ret
            exact ⟨rfl, (unhide H7).bel⟩
          · have e1 : (((a : Nat) : Int) == ((b : Nat) : Int)) = false := beq_f (by omega)
            by_cases sab : subD T a b = true
            · have sba : subD T b a = false := by
                cases hh : subD T b a with
                | false => rfl
                | true => exact absurd ((subD_iff.1 sab).antisymm (subD_iff.1 hh)) eab
              have SAB := hide sab
              have SBA := hide sba
              clear sab sba eab
              have c1 := (unhide H7).c1
              have c2 := (unhide H7).c2
              have c3 := (unhide H7).c3
              go_wp2_with fail
              refine (Sub_any ao cap T a b _ (unhide H7).tab (by omega) (by omega)).mono ?_
              rintro e wp ⟨rfl, hB⟩
              have Hp := hide ((unhide H7).below hB)
              clear c1 c2 c3 hB H7
              rw [unhide SAB]
              have c1 := (unhide Hp).c1
              have c2 := (unhide Hp).c2
              have c3 := (unhide Hp).c3
              go_wp2_with fail
              refine (Sub_any ao cap T b a _ (unhide Hp).tab (by omega) (by omega)).mono ?_
              rintro e wq ⟨rfl, hB⟩
              have Hq := hide ((unhide Hp).below hB)
              clear c1 c2 c3 hB Hp
              rw [unhide SBA]
              go_wp2
              go_ret
              exact ⟨rfl, (unhide Hq).bel⟩
            · have sab' : subD T a b = false := by simpa using sab
              have SAB := hide sab'
              clear sab sab' eab
              have c1 := (unhide H7).c1
              have c2 := (unhide H7).c2
              have c3 := (unhide H7).c3
              go_wp2_with fail
              refine (Sub_any ao cap T a b _ (unhide H7).tab (by omega) (by omega)).mono ?_
              rintro e wp ⟨rfl, hB⟩
              have Hp := hide ((unhide H7).below hB)
              clear c1 c2 c3 hB H7
              rw [unhide SAB]
              go_wp2
              go_ret
              exact ⟨rfl, (unhide Hp).bel⟩
        · have S2 : Hid (subD T b c = false) := hide (by simpa using s2)
          clear s1 s2
          have c1 := (unhide H3).c1
          have c2 := (unhide H3).c2
          have c3 := (unhide H3).c3
          go_wp2_with fail
          refine (Sub_any ao cap T a b _ (unhide H3).tab (by omega) (by omega)).mono ?_
          rintro e w5 ⟨rfl, hB⟩
          have H5 := hide ((unhide H3).below hB)
          clear c1 c2 c3 hB H3
          rw [unhide S1]
          have c1 := (unhide H5).c1
          have c2 := (unhide H5).c2
          have c3 := (unhide H5).c3
          go_wp2_with fail
          refine (Sub_any ao cap T b c _ (unhide H5).tab (by omega) (by omega)).mono ?_
          rintro e w6 ⟨rfl, hB⟩
          have H6 := hide ((unhide H5).below hB)
          clear c1 c2 c3 hB H5
          rw [unhide S2]
          clear S2
          by_cases eab : a = b
          · have e1 : (((a : Nat) : Int) == ((b : Nat) : Int)) = true := beq_t (by omega)
            clear eab
            have c1 := (unhide H6).c1
            have c2 := (unhide H6).c2
            have c3 := (unhide H6).c3
            go_wp2
            go_ret
            exact ⟨rfl, (unhide H6).bel⟩
          · have e1 : (((a : Nat) : Int) == ((b : Nat) : Int)) = false := beq_f (by omega)
            by_cases sab : subD T a b = true
            · have sba : subD T b a = false := by
                cases hh : subD T b a with
                | false => rfl
                | true => exact absurd ((subD_iff.1 sab).antisymm (subD_iff.1 hh)) eab
              have SAB := hide sab
              have SBA := hide sba
              clear sab sba eab
              have c1 := (unhide H6).c1
              have c2 := (unhide H6).c2
              have c3 := (unhide H6).c3
              go_wp2_with fail
              refine (Sub_any ao cap T a b _ (unhide H6).tab (by omega) (by omega)).mono ?_
              rintro e wp ⟨rfl, hB⟩
              have Hp := hide ((unhide H6).below hB)
              clear c1 c2 c3 hB H6
              rw [unhide SAB]
              have c1 := (unhide Hp).c1
              have c2 := (unhide Hp).c2
              have c3 := (unhide Hp).c3
              go_wp2_with fail
              refine (Sub_any ao cap T b a _ (unhide Hp).tab (by omega) (by omega)).mono ?_
              rintro e wq ⟨rfl, hB⟩
              have Hq := hide ((unhide Hp).below hB)
              clear c1 c2 c3 hB Hp
              rw [unhide SBA]
              go_wp2
              go_ret
              exact ⟨rfl, (unhide Hq).bel⟩
            · have sab' : subD T a b = false := by simpa using sab
              have SAB := hide sab'
              clear sab sab' eab
              have c1 := (unhide H6).c1
              have c2 := (unhide H6).c2
              have c3 := (unhide H6).c3
              go_wp2_with fail
              refine (Sub_any ao cap T a b _ (unhide H6).tab (by omega) (by omega)).mono ?_
              rintro e wp ⟨rfl, hB⟩
              have Hp := hide ((unhide H6).below hB)
              clear c1 c2 c3 hB H6
              rw [unhide SAB]
              go_wp2
              go_ret
              exact ⟨rfl, (unhide Hp).bel⟩
      · have S1 : Hid (subD T a b = false) := hide (by simpa using s1)
        clear s1
        have c1 := (unhide H3).c1
        have c2 := (unhide H3).c2
        have c3 := (unhide H3).c3
        go_wp2_with fail
        refine (Sub_any ao cap T a b _ (unhide H3).tab (by omega) (by omega)).mono ?_
        rintro e w5 ⟨rfl, hB⟩
        have H5 := hide ((unhide H3).below hB)
        clear c1 c2 c3 hB H3
        rw [unhide S1]
        by_cases eab : a = b
        · have e1 : (((a : Nat) : Int) == ((b : Nat) : Int)) = true := beq_t (by omega)
          clear eab
          have c1 := (unhide H5).c1
          have c2 := (unhide H5).c2
          have c3 := (unhide H5).c3
          go_wp2
          go_ret
          exact ⟨rfl, (unhide H5).bel⟩
        · have e1 : (((a : Nat) : Int) == ((b : Nat) : Int)) = false := beq_f (by omega)
          by_cases sab : subD T a b = true
          · have sba : subD T b a = false := by
              cases hh : subD T b a with
              | false => rfl
              | true => exact absurd ((subD_iff.1 sab).antisymm (subD_iff.1 hh)) eab
            have SAB := hide sab
            have SBA := hide sba
            clear sab sba eab
            have c1 := (unhide H5).c1
            have c2 := (unhide H5).c2
            have c3 := (unhide H5).c3
            go_wp2_with fail
            refine (Sub_any ao cap T a b _ (unhide H5).tab (by omega) (by omega)).mono ?_
            rintro e wp ⟨rfl, hB⟩
            have Hp := hide ((unhide H5).below hB)
            clear c1 c2 c3 hB H5
            rw [unhide SAB]
            have c1 := (unhide Hp).c1
            have c2 := (unhide Hp).c2
            have c3 := (unhide Hp).c3
            go_wp2_with fail
            refine (Sub_any ao cap T b a _ (unhide Hp).tab (by omega) (by omega)).mono ?_
            rintro e wq ⟨rfl, hB⟩
            have Hq := hide ((unhide Hp).below hB)
            clear c1 c2 c3 hB Hp
            rw [unhide SBA]
            go_wp2
            go_ret
            exact ⟨rfl, (unhide Hq).bel⟩
          · have sab' : subD T a b = false := by simpa using sab
            have SAB := hide sab'
            clear sab sab' eab
            have c1 := (unhide H5).c1
            have c2 := (unhide H5).c2
            have c3 := (unhide H5).c3
            go_wp2_with fail
            refine (Sub_any ao cap T a b _ (unhide H5).tab (by omega) (by omega)).mono ?_
            rintro e wp ⟨rfl, hB⟩
            have Hp := hide ((unhide H5).below hB)
            clear c1 c2 c3 hB H5
            rw [unhide SAB]
            go_wp2
            go_ret
            exact ⟨rfl, (unhide Hp).bel⟩
end Go.Proofs.Ytggaecmjadkopab
