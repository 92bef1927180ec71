/-
  Contracts of types.typeOf and Merge: what the plain functions say; nothing old is turned. Conditions: types are bytes.
-/
import Derived.Test.YtihkodfcgfnjoaaLeast
import Derived.Stop.RegionWithIn
namespace Go.Proofs.Ytihkodfcgfnjoaa
open Go.RowKit Go.Shelf
attribute [local go_sem] Oper.semAt_some

def tyD (x : Nat) : Nat := (16 + x) % 256
theorem tyD_lt (x : Nat) : tyD x < 256 := Nat.mod_lt _ (by decide)
theorem tyD_eq {x : Nat} (h : x < 240) : tyD x = 16 + x := by unfold tyD; omega
theorem typeOf_all (x : Nat) (w : World) :
    Calls Try.prog 55 #[.int .i64 (x : Int)] w fun e w' => e = .returned (.int .u8 ((tyD x : Nat) : Int)) ∧ w' = w := by
  have HD : Hid (((tyD x : Nat) : Int) = (16 + (x : Int)) % 256) := hide (by unfold tyD; omega)
  go_enter Try.func55, Try.ntmps55
  go_wp2
  go_ret
  refine ⟨ret_int ?_, rfl⟩
  rw [unhide HD]
  omega
theorem typeOf_any (c : Nat) (w : World) (hc : c < 240) :
    Calls Try.prog 55 #[.int .i64 (c : Int)] w fun e w' => e = .returned (.int .u8 ((16 + c : Nat) : Int)) ∧ w' = w := by
  go_enter Try.func55, Try.ntmps55
  go_wp2
  go_ret
  exact ⟨ret_int (by first | rfl | omega), rfl⟩

theorem keepsOthers_below {W W' : World} (h : Below W.heap.size W W') : KeepsOthers W W' :=
  KeepsOthers.of_grownBy (row := none) ⟨h.os, h.tape, h.output, h.size, fun k hk _ => h.block k hk⟩ (fun r o e => by cases e)
theorem line_240 {T : List Cl} {a y : Nat} (ha : a < 256) (hy : y ∈ lineB T T.length ((a : Int) - 16)) : y < 240 := by
  by_cases h : 16 ≤ a
  · rw [show (a : Int) - 16 = ((a - 16 : Nat) : Int) from by omega] at hy
    have := line_le hy
    omega
  · rw [lineB_out (by omega)] at hy; simp at hy
theorem find_none {T : List Cl} {a b : Nat} (ha : a < 256) (h : ∀ y ∈ lineB T T.length ((a : Int) - 16), subD T b (tyD y) = false) : (lineB T T.length ((a : Int) - 16)).find? (fun c => subD T b (16 + c)) = none := by
  rw [List.find?_eq_none]
  intro y hy
  have := h y hy
  rw [tyD_eq (line_240 ha hy)] at this
  simpa using this
theorem find_some {T : List Cl} {a b : Nat} {pre : List Nat} {y : Nat} (ha : a < 256) (hp : (pre ++ [y]) <+: lineB T T.length ((a : Int) - 16)) (hn : ∀ z ∈ pre, subD T b (tyD z) = false) (hy : subD T b (tyD y) = true) : (lineB T T.length ((a : Int) - 16)).find? (fun c => subD T b (16 + c)) = some y := by
  have h240 : ∀ z ∈ pre ++ [y], z < 240 := fun z hz => line_240 ha (hp.subset hz)
  obtain ⟨rest, hr⟩ := hp
  rw [List.find?_eq_some_iff_append]
  refine ⟨?_, pre, rest, by rw [← hr]; simp, fun z hz => ?_⟩
  · rw [← tyD_eq (h240 y (by simp))]; exact hy
  · have := hn z hz
    rw [tyD_eq (h240 z (by simp [hz]))] at this
    simpa using this

/-- A statement that cannot leave but ahead, and ends in one state. -/
theorem wpIn_same {F : Fence} {n : Nat} {P : Program} {c : Code} {K : Act → World → Prop} {Q : Exit → Act → World → Prop} {a : Act} {w : World} {A : Act} {W : World}
    (h : c.wpIn F n P (Exit.then (fun a' w' => a' = A ∧ w' = W) (fun _ _ _ => False)) a w) (rest : K A W) : c.wpIn F n P (Exit.then K Q) a w := by
  refine wpIn_mono h ?_
  intro e a' w' hq
  cases e with
  | normal =>
    obtain ⟨h1, h2⟩ : a' = A ∧ w' = W := hq
    rw [h1, h2]
    exact rest
  | exit id => exact False.elim hq
  | goto l => exact False.elim hq
  | ret => exact False.elim hq
  | panic ch => exact False.elim hq
  | outgrown => exact False.elim hq
/-- The same, where the world is known by a relation. -/
theorem wpIn_rel {F : Fence} {n : Nat} {P : Program} {c : Code} {K : Act → World → Prop} {Q : Exit → Act → World → Prop} {a : Act} {w : World} {A : Act} (R : World → Prop)
    (h : c.wpIn F n P (Exit.then (fun a' w' => a' = A ∧ R w') (fun _ _ _ => False)) a w) (rest : ∀ W, R W → K A W) : c.wpIn F n P (Exit.then K Q) a w := by
  refine wpIn_mono h ?_
  intro e a' w' hq
  cases e with
  | normal =>
    obtain ⟨h1, h2⟩ : a' = A ∧ R w' := hq
    rw [h1]
    exact rest _ h2
  | exit id => exact False.elim hq
  | goto l => exact False.elim hq
  | ret => exact False.elim hq
  | panic ch => exact False.elim hq
  | outgrown => exact False.elim hq

/-- The boxes of a call. -/
structure MB (w W : World) (ao : Option Addr) (cap : Nat) (T : List Cl) (b : Nat) : Prop where
  l : W.cell? ⟨w.heap.size, 0, none⟩ = some (.slice ao T.length cap)
  b : W.cell? ⟨w.heap.size + 1, 0, none⟩ = some (.int .u8 (b : Int))
  r : W.cell? ⟨w.heap.size + 1 + 1, 0, none⟩ = some (.int .u8 0)
  f : W.frozen? ⟨w.heap.size + 1 + 1, 0, none⟩ = false
  bel : Below w.heap.size w W
theorem MB.below {w W W' : World} {ao : Option Addr} {cap : Nat} {T : List Cl} {b : Nat} (h : MB w W ao cap T b) (hb : Below W.heap.size W W') : MB w W' ao cap T b := by
  have h1 := World.block_lt_of_cell? W _ h.l
  have h2 := World.block_lt_of_cell? W _ h.b
  have h3 := World.block_lt_of_cell? W _ h.r
  exact ⟨(hb.cell (p := ⟨w.heap.size, 0, none⟩) h1).trans h.l, (hb.cell (p := ⟨w.heap.size + 1, 0, none⟩) h2).trans h.b, (hb.cell (p := ⟨w.heap.size + 1 + 1, 0, none⟩) h3).trans h.r, (hb.frozen (p := ⟨w.heap.size + 1 + 1, 0, none⟩) h3).trans h.f, h.bel.trans (hb.mono h.bel.size)⟩
theorem MB.tab {w W : World} {ao : Option Addr} {cap : Nat} {T : List Cl} {b : Nat} (h : MB w W ao cap T b) (hT : TabAt w ao T) : TabAt W ao T := hT.below h.bel
theorem MB.start (w : World) (ao : Option Addr) (cap : Nat) (T : List Cl) (b : Nat) : MB w (((w.alloc (Obj.cells #[Value.slice ao T.length cap] 22)).alloc (Obj.cells #[Value.int IntKind.u8 (b : Int)] 24)).alloc (Obj.cells #[Value.int IntKind.u8 0] 24)) ao cap T b := by
  have c0 := cellNew w (.slice ao T.length cap) 22
  have c1 := cellNew (w.alloc (.cells #[.slice ao T.length cap] 22)) (.int .u8 (b : Int)) 24
  have c2 := cellNew ((w.alloc (.cells #[.slice ao T.length cap] 22)).alloc (.cells #[.int .u8 (b : Int)] 24)) (.int .u8 0) 24
  simp only [World.size_alloc] at c1 c2
  exact ⟨cellAlloc _ (cellAlloc _ c0.1), cellAlloc _ c1.1, c2.1, c2.2, (((Below.refl _ w).alloc (Nat.le_refl _) _).alloc (by simp) _).alloc (by simp; omega) _⟩

theorem merge_0 {T : List Cl} {a b : Nat} (h : (!validD T.length a || !validD T.length b) = true) : mergeD T a b = 0 := by unfold mergeD; rw [if_pos h]
theorem merge_1 {T : List Cl} {a b : Nat} (h : ¬ (!validD T.length a || !validD T.length b) = true) (h1 : subD T a b = true) : mergeD T a b = b := by unfold mergeD; rw [if_neg h, if_pos h1]
theorem merge_2 {T : List Cl} {a b : Nat} (h : ¬ (!validD T.length a || !validD T.length b) = true) (h1 : ¬ subD T a b = true) (h2 : subD T b a = true) : mergeD T a b = a := by unfold mergeD; rw [if_neg h, if_neg h1, if_pos h2]
theorem merge_3 {T : List Cl} {a b : Nat} (h : ¬ (!validD T.length a || !validD T.length b) = true) (h1 : ¬ subD T a b = true) (h2 : ¬ subD T b a = true) (h3 : (!isRefD a || !isRefD b) = true) : mergeD T a b = 0 := by unfold mergeD; rw [if_neg h, if_neg h1, if_neg h2, if_pos h3]
theorem merge_4 {T : List Cl} {a b : Nat} (h : ¬ (!validD T.length a || !validD T.length b) = true) (h1 : ¬ subD T a b = true) (h2 : ¬ subD T b a = true) (h3 : ¬ (!isRefD a || !isRefD b) = true) : mergeD T a b = match (lineB T T.length ((a : Int) - 16)).find? (fun c => subD T b (16 + c)) with | some c => 16 + c | none => 5 := by unfold mergeD; rw [if_neg h, if_neg h1, if_neg h2, if_neg h3]; rfl

set_option maxRecDepth 100000 in
set_option maxHeartbeats 4000000 in
theorem Merge_any (ao : Option Addr) (cap : Nat) (T : List Cl) (a b : Nat) (w : World) (hT : TabAt w ao T) (ha : a < 256) (hb : b < 256) :
    Calls Try.prog 40 #[.slice ao T.length cap, .int .u8 (a : Int), .int .u8 (b : Int)] w fun e w' => e = .returned (.int .u8 ((mergeD T a b : Nat) : Int)) ∧ Below w.heap.size w w' := by
  obtain ⟨M, HM⟩ : ∃ M, Hid (mergeD T a b = M) := ⟨_, hide rfl⟩
  rw [unhide HM]
  have HT := hide hT
  clear hT
  refine (callsIn_wide (n := 4)).1 ?_
  refine callsIn_of_wp_marks Try.func40 rfl trivial ?_ rfl
  simp only [Try.ntmps40, List.size_toArray, List.length_cons, List.length_nil, Nat.reduceAdd, Nat.reduceSub, Array.replicate_succ, Array.replicate_zero, List.push_toArray, List.append_toArray, List.nil_append, List.cons_append]
  gi_wp2
  obtain ⟨w1, HW1⟩ : ∃ w1, Hid ((((w.alloc (Obj.cells #[Value.slice ao T.length cap] 22)).alloc (Obj.cells #[Value.int IntKind.u8 (b : Int)] 24)).alloc (Obj.cells #[Value.int IntKind.u8 0] 24)) = w1) := ⟨_, hide rfl⟩
  have H1 : Hid (MB w w1 ao cap T b) := hide (by rw [← unhide HW1]; exact MB.start w ao cap T b)
  rw [unhide HW1]
  clear HW1
  refine ⟨trivial, ?_⟩
  refine (callsIn_wide.2 (Valid_any ao T.length cap a _ ha)).mono ?_
  rintro e w1' ⟨rfl, rfl⟩
  by_cases h1 : validD T.length a = true
  · rw [h1]
    have cl := (unhide H1).l
    have cb := (unhide H1).b
    have cr := (unhide H1).r
    have cf := (unhide H1).f
    gi_wp2
    refine ⟨trivial, ?_⟩
    refine (callsIn_wide.2 (Valid_any ao T.length cap b _ hb)).mono ?_
    rintro e w2' ⟨rfl, rfl⟩
    by_cases h2 : validD T.length b = true
    · have HV : Hid (¬ (!validD T.length a || !validD T.length b) = true) := hide (by rw [h1, h2]; simp)
      rw [h2]
      clear h1 h2
      gi_wp2
      refine ⟨trivial, ?_⟩
      refine (callsIn_wide.2 (Sub_any ao cap T a b _ ((unhide H1).tab (unhide HT)) ha hb)).mono ?_
      rintro e w3 ⟨rfl, hB⟩
      have H3 := hide ((unhide H1).below hB)
      clear cl cb cr cf H1 hB
      have cl := (unhide H3).l
      have cb := (unhide H3).b
      have cr := (unhide H3).r
      have cf := (unhide H3).f
      by_cases s1 : subD T a b = true
      · have HR : Hid (b = M) := hide ((merge_1 (unhide HV) s1).symm.trans (unhide HM))
        rw [s1]
        clear s1
        gi_wp2
        have hc5 := World.cell?_setCell_same' w3 ⟨w.heap.size + 1 + 1, 0, none⟩ (.int .u8 (b : Int)) (by rw [cr]; rfl)
        refine ⟨.int .u8 (b : Int), ?_, by rw [unhide HR], (unhide H3).bel.setCell (p := ⟨w.heap.size + 1 + 1, 0, none⟩) (by simp; omega) _⟩
        simp [results, Try.f40, go_sem, hc5]
      · have S1 := hide s1
        have s1' : subD T a b = false := by simpa using s1
        rw [s1']
        clear s1 s1'
        gi_wp2
        refine ⟨trivial, ?_⟩
        refine (callsIn_wide.2 (Sub_any ao cap T b a _ ((unhide H3).tab (unhide HT)) hb ha)).mono ?_
        rintro e w4 ⟨rfl, hB⟩
        have H4 := hide ((unhide H3).below hB)
        clear cl cb cr cf H3 hB
        have cl := (unhide H4).l
        have cb := (unhide H4).b
        have cr := (unhide H4).r
        have cf := (unhide H4).f
        by_cases s2 : subD T b a = true
        · have HR : Hid (a = M) := hide ((merge_2 (unhide HV) (unhide S1) s2).symm.trans (unhide HM))
          rw [s2]
          clear s2
          gi_wp2
          have hc5 := World.cell?_setCell_same' w4 ⟨w.heap.size + 1 + 1, 0, none⟩ (.int .u8 (a : Int)) (by rw [cr]; rfl)
          refine ⟨.int .u8 (a : Int), ?_, by rw [unhide HR], (unhide H4).bel.setCell (p := ⟨w.heap.size + 1 + 1, 0, none⟩) (by simp; omega) _⟩
          simp [results, Try.f40, go_sem, hc5]
        · have S2 := hide s2
          have s2' : subD T b a = false := by simpa using s2
          rw [s2']
          clear s2 s2'
          gi_wp2
          refine ⟨trivial, ?_⟩
          refine (callsIn_wide.2 (IsRef_any a _)).mono ?_
          rintro e w5 ⟨rfl, rfl⟩
          by_cases r1 : isRefD a = true
          · rw [r1]
            gi_wp2
            refine ⟨trivial, ?_⟩
            refine (callsIn_wide.2 (IsRef_any b _)).mono ?_
            rintro e w6 ⟨rfl, rfl⟩
            by_cases r2 : isRefD b = true
            · have HR := hide ((merge_4 (unhide HV) (unhide S1) (unhide S2) (by rw [r1, r2]; simp)).symm.trans (unhide HM))
              rw [r2]
              clear r1 r2
              gi_wp2
              apply wpIn_same
              case h =>
                gi_region_with (first | (refine ⟨trivial, ?_⟩; gi_at_call 54; refine (callsIn_wide.2 (classOf_any a _ ha)).mono ?_; rintro e w7 ⟨rfl, rfl⟩) | (refine ⟨trivial, ?_⟩; gi_at_call 53; refine (lineMake_in _ _ _ _ _ _).mono ?_; rintro e w7 ⟨rfl, rfl⟩))
                all_goals exact ⟨rfl, rfl⟩
              gi_wp2
              obtain ⟨Bl, HBl⟩ : ∃ Bl, Hid (w6.heap.size = Bl) := ⟨_, hide rfl⟩
              obtain ⟨w7, HW7⟩ : ∃ w7, Hid (((w6.alloc (Obj.cells #[Value.slice ao T.length cap] 22)).alloc (Obj.cells #[Value.int IntKind.i64 ((a : Int) - 16)] 3)).drew = w7) := ⟨_, hide rfl⟩
              have hB67 : Below w6.heap.size w6 w7 := by rw [← unhide HW7]; exact (((Below.refl _ w6).alloc (Nat.le_refl _) _).alloc (by simp) _).drew
              have H7 : Hid (MB w w7 ao cap T b) := hide ((unhide H4).below hB67)
              have d0 : w7.cell? ⟨Bl, 0, none⟩ = some (.slice ao T.length cap) := by
                rw [← unhide HW7, ← unhide HBl]
                exact cellAlloc _ (cellNew w6 (.slice ao T.length cap) 22).1
              have d1 : w7.cell? ⟨Bl + 1, 0, none⟩ = some (.int .i64 ((a : Int) - 16)) := by
                rw [← unhide HW7, ← unhide HBl]
                have := cellNew (w6.alloc (Obj.cells #[Value.slice ao T.length cap] 22)) (.int .i64 ((a : Int) - 16)) 3
                rw [World.size_alloc] at this
                exact this.1
              have hBl7 : Bl + 1 < w7.heap.size := World.block_lt_of_cell? w7 _ d1
              have hs6 : w.heap.size + 1 + 1 < Bl := by rw [← unhide HBl]; exact World.block_lt_of_cell? w6 _ cr
              rw [unhide HW7, unhide HBl]
              have cl := (unhide H7).l
              have cb := (unhide H7).b
              have cr := (unhide H7).r
              have cf := (unhide H7).f
              have hB7 := (unhide H7).bel
              have h1 : 1 ≤ 4 := by omega
              refine wpIn_rangeFunc_ownF rfl h1 (gf := 64) (lb := #[.pointer (some ⟨Bl + 1, 0, none⟩), .pointer (some ⟨Bl, 0, none⟩)]) rfl trivial (enters_of Try.func64 (by kernel_rfl) rfl)
                (line_stops (4 - 1) (by omega) (Bl + 1) Bl ao cap T ((a : Int) - 16) w w7 (unhide HT) hB7 d1 d0) keepsL_t (keepsL_b hB7.size (by omega)) (Below.refl _ _) (fun _ => rfl)
                (fun pre W => ((∀ y ∈ pre, subD T b (tyD y) = false) ∧ W.cell? ⟨w.heap.size, 0, none⟩ = some (.slice ao T.length cap) ∧ W.cell? ⟨w.heap.size + 1, 0, none⟩ = some (.int .u8 (b : Int)) ∧ W.cell? ⟨w.heap.size + 1 + 1, 0, none⟩ = some (.int .u8 0) ∧ W.frozen? ⟨w.heap.size + 1 + 1, 0, none⟩ = false ∧ W.cell? ⟨Bl, 0, none⟩ = some (.slice ao T.length cap)) ∧ Below w.heap.size w W)
                (fun c pre W => (c = .ret ∧ (∃ pre' y, pre = pre' ++ [y] ∧ (∀ z ∈ pre', subD T b (tyD z) = false) ∧ subD T b (tyD y) = true ∧ W.cell? ⟨w.heap.size + 1 + 1, 0, none⟩ = some (.int .u8 ((tyD y : Nat) : Int)))) ∧ Below w.heap.size w W)
                (OwnFrom.and (Own.from (fun s A B row hs hg hr => ⟨hs.1, cell_kept hs.2.1 hg hr, cell_kept hs.2.2.1 hg hr, cell_kept hs.2.2.2.1 hg hr, (frozen_kept hs.2.2.2.1 hg hr).trans hs.2.2.2.2.1, cell_kept hs.2.2.2.2.2 hg hr⟩) _) (ownFrom_below (Nat.le_refl _) hB7.size))
                (fun c => OwnFrom.and (Own.from (fun s A B row hs hg hr => ⟨hs.1, by obtain ⟨pre', y, e1, e2, e3, e4⟩ := hs.2; exact ⟨pre', y, e1, e2, e3, cell_kept e4 hg hr⟩⟩) _) (ownFrom_below (Nat.le_refl _) hB7.size))
                ⟨⟨by simp, cl, cb, cr, cf, d0⟩, hB7⟩
                (fun x => { tmps := #[Value.slice ao T.length cap, Value.int IntKind.u8 (a : Int), Value.int IntKind.u8 (b : Int), Value.pointer (some { block := w.heap.size, off := 0 }), undef, Value.pointer (some { block := w.heap.size + 1, off := 0 }), Value.pointer (some { block := w.heap.size + 1 + 1, off := 0 }), Value.int .i64 (x : Int), Value.bool false, Value.slice ao T.length cap, Value.int IntKind.u8 (a : Int), Value.bool true, Value.bool false, Value.bool false, Value.slice ao T.length cap, Value.int IntKind.u8 (b : Int), Value.bool true, Value.bool false, Value.bool false, Value.bool false, Value.slice ao T.length cap, Value.int IntKind.u8 (a : Int), Value.int IntKind.u8 (b : Int), Value.bool false, undef, Value.bool false, Value.slice ao T.length cap, Value.int IntKind.u8 (b : Int), Value.int IntKind.u8 (a : Int), Value.bool false, undef, Value.bool false, Value.int IntKind.u8 (a : Int), Value.bool true, Value.bool false, Value.bool false, Value.int IntKind.u8 (b : Int), Value.bool true, Value.bool false, Value.bool false, Value.slice ao T.length cap, Value.int IntKind.u8 (a : Int), Value.int IntKind.i64 ((a : Int) - 16), Value.func (Fn.func 64) #[] #[Value.pointer (some { block := Bl + 1, off := 0 }), Value.pointer (some { block := Bl, off := 0 })], Value.int .i64 (x : Int), undef, undef, undef, undef, undef, undef, undef], defers := [] }) ?assign ?body ?done ?stop
              case assign =>
                intro l x W K hK
                gi_wp2
                exact hK
              case body =>
                rintro l pre x W ⟨⟨hp, hcl, hcb, hcr, hcf, hcx⟩, hB⟩ _
                gi_wp2
                have hTW : TabAt W.drew ao T := (unhide HT).below hB.drew
                have HTW := hide hTW
                clear hTW
                apply wpIn_rel (fun W' => Below W.heap.size W W')
                case h =>
                  gi_region_with (first | (refine ⟨trivial, ?_⟩; gi_at_call 55; refine (CallsIn.inRound l (callsIn_wide.2 (typeOf_all x _))).mono ?_; rintro e w8 ⟨rfl, rfl⟩) | (refine ⟨trivial, ?_⟩; gi_at_call 51; refine (CallsIn.inRound l (callsIn_wide.2 (Sub_any ao cap T b (tyD x) _ (unhide HTW) hb (tyD_lt x)))).mono ?_; rintro e w8 ⟨rfl, hB8⟩))
                  all_goals exact ⟨rfl, ((Below.refl _ W).drew).trans hB8⟩
                intro W8 hB8
                have hl1 := World.block_lt_of_cell? W _ hcl
                have hl2 := World.block_lt_of_cell? W _ hcb
                have hl3 := World.block_lt_of_cell? W _ hcr
                have hcl8 := (hB8.cell (p := ⟨w.heap.size, 0, none⟩) hl1).trans hcl
                have hcb8 := (hB8.cell (p := ⟨w.heap.size + 1, 0, none⟩) hl2).trans hcb
                have hcr8 := (hB8.cell (p := ⟨w.heap.size + 1 + 1, 0, none⟩) hl3).trans hcr
                have hcf8 := (hB8.frozen (p := ⟨w.heap.size + 1 + 1, 0, none⟩) hl3).trans hcf
                have hl4 := World.block_lt_of_cell? W _ hcx
                have hcx8 := (hB8.cell (p := ⟨Bl, 0, none⟩) hl4).trans hcx
                have hK8 : KeepsOthers W W8 := keepsOthers_below hB8
                have hW8 : Below w.heap.size w W8 := hB.trans (hB8.mono hB.size)
                by_cases hs : subD T b (tyD x) = true
                · rw [hs]
                  gi_wp2
                  refine ⟨trivial, ?_⟩
                  refine (CallsIn.inRound l (callsIn_wide.2 (typeOf_all x _))).mono ?_
                  rintro e w9 ⟨rfl, rfl⟩
                  gi_wp2
                  exact ⟨hK8.trans (KeepsOthers.setCell _ _ _), ⟨rfl, pre, x, rfl, hp, hs, World.cell?_setCell_same' _ _ _ (by rw [hcr8]; rfl)⟩, hW8.setCell (p := ⟨w.heap.size + 1 + 1, 0, none⟩) (by simp; omega) _⟩
                · have hs' : subD T b (tyD x) = false := by simpa using hs
                  rw [hs']
                  gi_wp2
                  refine ⟨hK8, ⟨hB8.mono (by omega), hB8.block _ hl4⟩, ⟨fun y hy => (List.mem_append.1 hy).elim (hp y) (fun e => by simp at e; subst e; exact hs'), hcl8, hcb8, hcr8, hcf8, hcx8⟩, hW8⟩
              case done =>
                rintro D ys W hD rfl ⟨⟨hne, _, _, hcr, hfr, _⟩, hB⟩ hK
                gi_wp2
                have hK' := (KeepsOthers.setCell W ⟨w.heap.size + 1 + 1, 0, none⟩ (.int .u8 5)).same D _ hK rfl
                refine ⟨by simp, .inl ⟨_, _, rfl, run_takeDeferred hK', ?_⟩⟩
                have hc5 := cell_kept (World.cell?_setCell_same' W ⟨w.heap.size + 1 + 1, 0, none⟩ (.int .u8 5) (by rw [hcr]; rfl)) (grownBy_putObj' _ D (.deferred none)) (fun r e => by cases e; exact ⟨_, hK', rfl⟩)
                refine ⟨.int .u8 5, ?_, ?_, (hB.setCell (p := ⟨w.heap.size + 1 + 1, 0, none⟩) (by simp; omega) _).trans (belowK_b (w := w) (Nat.le_refl _) _ D _ _ (by have := hB7.size; omega) hK' rfl rfl)⟩
                · simp [results, Try.f40, go_sem, hc5]
                · rw [← unhide HR, find_none ha hne]
                  rfl
              case stop =>
                rintro D c' pre W hD hpre ⟨⟨rfl, pre', y, rfl, hn, hy, hcr⟩, hB⟩ hK
                gi_wp2
                refine ⟨by simp, .inl ⟨_, _, rfl, run_takeDeferred hK, ?_⟩⟩
                have hc5 := cell_kept hcr (grownBy_putObj' _ D (.deferred none)) (fun r e => by cases e; exact ⟨_, hK, rfl⟩)
                refine ⟨.int .u8 ((tyD y : Nat) : Int), ?_, ?_, hB.trans (belowK_b (w := w) (Nat.le_refl _) W D _ _ (by have := hB7.size; omega) hK rfl rfl)⟩
                · simp [results, Try.f40, go_sem, hc5]
                · rw [← unhide HR, find_some ha hpre hn hy]
                  simp only
                  rw [tyD_eq (line_240 ha (hpre.subset (by simp)))]
            · have r2' : isRefD b = false := by simpa using r2
              have HR : Hid (0 = M) := hide ((merge_3 (unhide HV) (unhide S1) (unhide S2) (by rw [r2']; simp)).symm.trans (unhide HM))
              rw [r2']
              clear r1 r2 r2'
              gi_wp2
              have hc5 := World.cell?_setCell_same' w6 ⟨w.heap.size + 1 + 1, 0, none⟩ (.int .u8 0) (by rw [cr]; rfl)
              refine ⟨.int .u8 0, ?_, by rw [← unhide HR]; rfl, (unhide H4).bel.setCell (p := ⟨w.heap.size + 1 + 1, 0, none⟩) (by simp; omega) _⟩
              simp [results, Try.f40, go_sem, hc5]
          · have r1' : isRefD a = false := by simpa using r1
            have HR : Hid (0 = M) := hide ((merge_3 (unhide HV) (unhide S1) (unhide S2) (by rw [r1']; simp)).symm.trans (unhide HM))
            rw [r1']
            clear r1 r1'
            gi_wp2
            refine ⟨trivial, ?_⟩
            gi_wp2
            have hc5 := World.cell?_setCell_same' w5 ⟨w.heap.size + 1 + 1, 0, none⟩ (.int .u8 0) (by rw [cr]; rfl)
            refine ⟨.int .u8 0, ?_, by rw [← unhide HR]; rfl, (unhide H4).bel.setCell (p := ⟨w.heap.size + 1 + 1, 0, none⟩) (by simp; omega) _⟩
            simp [results, Try.f40, go_sem, hc5]
    · have h2' : validD T.length b = false := by simpa using h2
      have HR : Hid (0 = M) := hide ((merge_0 (by rw [h2']; simp)).symm.trans (unhide HM))
      rw [h2']
      clear h1 h2 h2'
      gi_wp2
      have hc5 := World.cell?_setCell_same' w2' ⟨w.heap.size + 1 + 1, 0, none⟩ (.int .u8 0) (by rw [cr]; rfl)
      refine ⟨.int .u8 0, ?_, by rw [← unhide HR]; rfl, (unhide H1).bel.setCell (p := ⟨w.heap.size + 1 + 1, 0, none⟩) (by simp; omega) _⟩
      simp [results, Try.f40, go_sem, hc5]
  · have h1' : validD T.length a = false := by simpa using h1
    have HR : Hid (0 = M) := hide ((merge_0 (by rw [h1']; simp)).symm.trans (unhide HM))
    have cl := (unhide H1).l
    have cb := (unhide H1).b
    have cr := (unhide H1).r
    have cf := (unhide H1).f
    rw [h1']
    clear h1 h1'
    gi_wp2
    refine ⟨trivial, ?_⟩
    gi_wp2
    have hc5 := World.cell?_setCell_same' w1' ⟨w.heap.size + 1 + 1, 0, none⟩ (.int .u8 0) (by rw [cr]; rfl)
    refine ⟨.int .u8 0, ?_, by rw [← unhide HR]; rfl, (unhide H1).bel.setCell (p := ⟨w.heap.size + 1 + 1, 0, none⟩) (by simp; omega) _⟩
    simp [results, Try.f40, go_sem, hc5]
end Go.Proofs.Ytihkodfcgfnjoaa
