/-
  Texts of contracts and plain lemmas, one behind another; each says at its head what it holds.
-/
import Derived.Test.YtkodmpcnndbngaaGreatDoorKFrU
import Derived.Test.YtkodmpcnndbngaaGreatDoorJCH
import Derived.Deep.Cut
import Derived.Deep.RegionHeld3
import Derived.Deep.AppendLies
import Derived.Deep.DeepCutAuto
import Derived.Deep.RegionLaw
/-
  Signatures: how they lie in a world; provisoplain.Sig and SameSig; infer.areStored, checkSig and provisoref02.SigMay. Conditions: lengths fit.
-/
namespace Go.Proofs.YtkodmpcnndbngaaGreatDoor
open Go.RowKit
set_option maxRecDepth 20000

structure Sg where
  po : Option Addr
  pc : Nat
  ps : List Nat
  rt : Nat
structure SgOk (W : World) (x : Sg) : Prop where
  prm : PAt W x.po x.ps
  nil : x.po = none → x.ps = []
  bts : ∀ t ∈ x.ps, t < 256
  fit : x.ps.length ≤ 140737488351232
  res : x.rt < 256
structure SgAt (W : World) (b o : Nat) (x : Sg) : Prop where
  c0 : W.cell? ⟨b, o, none⟩ = some (.slice x.po x.ps.length x.pc)
  c1 : W.cell? ⟨b, o + 1, none⟩ = some (.int .u8 (x.rt : Int))
  ok : SgOk W x
def SgsAt (W : World) (ao : Option Addr) (L : List Sg) : Prop := ∀ i x, L[i]? = some x → ∃ b off, ao = some ⟨b, off, none⟩ ∧ SgAt W b (off + i * 2) x
theorem SgOk.below {W w : World} {x : Sg} (h : SgOk W x) (hb : Below W.heap.size W w) : SgOk w x := ⟨h.prm.below hb, h.nil, h.bts, h.fit, h.res⟩
theorem SgAt.below {W w : World} {b o : Nat} {x : Sg} (h : SgAt W b o x) (hb : Below W.heap.size W w) : SgAt w b o x := by
  have hl : b < W.heap.size := World.block_lt_of_cell? W _ h.c0
  exact ⟨(hb.cell (p := ⟨b, o, none⟩) hl).trans h.c0, (hb.cell (p := ⟨b, o + 1, none⟩) hl).trans h.c1, h.ok.below hb⟩
theorem SgsAt.below {W w : World} {ao : Option Addr} {L : List Sg} (h : SgsAt W ao L) (hb : Below W.heap.size W w) : SgsAt w ao L := fun i x hx => by
  obtain ⟨b, off, e, h1⟩ := h i x hx
  exact ⟨b, off, e, h1.below hb⟩

/-! ### Boxes -/
def SBx (W : World) (g : Nat) (v : Value) (r : Nat) : Prop := W.heap[g]? = some (.cells #[v, .int .u8 (r : Int)] 46 (0, 0))
theorem SBx.lt {W : World} {g r : Nat} {v : Value} (h : SBx W g v r) : g < W.heap.size := (Array.getElem?_eq_some_iff.1 h).1
theorem SBx.c0 {W : World} {g r : Nat} {v : Value} (h : SBx W g v r) : W.cell? ⟨g, 0, none⟩ = some v := cell_of_row _ _ 0 _ _ _ h
theorem SBx.c1 {W : World} {g r : Nat} {v : Value} (h : SBx W g v r) : W.cell? ⟨g, 1, none⟩ = some (.int .u8 (r : Int)) := cell_of_row _ _ 1 _ _ _ h
theorem SBx.f {W : World} {g r : Nat} {v : Value} (h : SBx W g v r) (i : Nat) : W.frozen? ⟨g, i, none⟩ = false := frozen_of_row _ _ _ _ _ h
theorem SBx.set0 {W : World} {g r : Nat} {v : Value} (h : SBx W g v r) (v' : Value) : SBx (W.setCell ⟨g, 0, none⟩ v') g v' r := by
  unfold SBx at h ⊢
  simp only [World.setCell, Array.getElem?_modify, if_true, h]
  rfl
def EBx (W : World) (g : Nat) (v u : Value) (n : Int) : Prop := W.heap[g]? = some (.cells #[v, u, .int .i64 n] 25 (0, 0))
theorem EBx.lt {W : World} {g : Nat} {v u : Value} {n : Int} (h : EBx W g v u n) : g < W.heap.size := (Array.getElem?_eq_some_iff.1 h).1
theorem EBx.c0 {W : World} {g : Nat} {v u : Value} {n : Int} (h : EBx W g v u n) : W.cell? ⟨g, 0, none⟩ = some v := cell_of_row _ _ 0 _ _ _ h
theorem EBx.c1 {W : World} {g : Nat} {v u : Value} {n : Int} (h : EBx W g v u n) : W.cell? ⟨g, 1, none⟩ = some u := cell_of_row _ _ 1 _ _ _ h
theorem EBx.c2 {W : World} {g : Nat} {v u : Value} {n : Int} (h : EBx W g v u n) : W.cell? ⟨g, 2, none⟩ = some (.int .i64 n) := cell_of_row _ _ 2 _ _ _ h
theorem EBx.f {W : World} {g : Nat} {v u : Value} {n : Int} (h : EBx W g v u n) (i : Nat) : W.frozen? ⟨g, i, none⟩ = false := frozen_of_row _ _ _ _ _ h
theorem EBx.set1 {W : World} {g : Nat} {v u : Value} {n : Int} (h : EBx W g v u n) (u' : Value) : EBx (W.setCell ⟨g, 1, none⟩ u') g v u' n := by
  unfold EBx at h ⊢
  simp only [World.setCell, Array.getElem?_modify, if_true, h]
  rfl
theorem results_cellG {fn : Func} {p : Tmp} {ty : TypeId} (h : fn.results = #[.cell p ty]) (tmps : Array Value) (P : Program) (w : World) :
    (results fn tmps).run P w = ((asAddr (tmps.getD p undef)).run P w).andThen fun a w₁ => (loadVar ty a).run P w₁ := by
  simp only [results, h]
  simp [Sem.run_bind, Result.andThen]
theorem results_sg1 {fn : Func} {p : Tmp} (h : fn.results = #[.cell p 46]) (tmps : Array Value) (W : World) (g : Nat) (v : Value) (r : Nat) (hp : tmps.getD p undef = .pointer (some ⟨g, 0, none⟩)) (hg : SBx W g v r) :
    (results fn tmps).run Tryz.prog W = .ok (.agg #[v, .int .u8 (r : Int)]) W := by
  rw [results_cellG h, hp, run_addr, Result.andThen_ok, run_loadVar_row W g 46 46 #[v, .int .u8 (r : Int)] (0, 0) _ hg Tryz.underlying46 rfl (by kernel_rfl)]
theorem results_ev1 {fn : Func} {p : Tmp} (h : fn.results = #[.cell p 25]) (tmps : Array Value) (W : World) (g : Nat) (v u : Value) (n : Int) (hp : tmps.getD p undef = .pointer (some ⟨g, 0, none⟩)) (hg : EBx W g v u n) :
    (results fn tmps).run Tryz.prog W = .ok (.agg #[v, u, .int .i64 n]) W := by
  rw [results_cellG h, hp, run_addr, Result.andThen_ok, run_loadVar_row W g 25 25 #[v, u, .int .i64 n] (0, 0) _ hg Tryz.underlying25 rfl (by kernel_rfl)]

theorem start_okG {n : Nat} {ps : List Nat} (hp : ∀ t ∈ ps, t < 256) (lo : Int) : FrOk (startD n ps lo).1 := by
  unfold startD
  by_cases h : lo < 0 ∨ 16 < lo ∨ 8 < ps.length ∨ lo < (ps.length : Int)
  · rw [if_pos h]; exact frZ_ok
  · rw [if_neg h]
    by_cases h2 : ps.all (storedD n) = true
    · rw [if_pos h2]; exact startTo_ok (by omega) (by omega) hp _
    · rw [if_neg h2]; exact frZ_ok

/-! ### Rows of types -/
theorem rows_grownG {w w' : World} {base : Nat} {t : TypeId} {s : Nat} {v : Value} {n : Nat} {cs : List Value} {row : Option Nat} (h : w.ownsRow base t s v n cs) (hg : w.grownBy w' row) (hne : ∀ g, v.ownBlock = some g → row ≠ some g) : w'.ownsRow base t s v n cs := by
  refine ⟨h.1, ?_⟩
  rcases h.2 with h1 | ⟨g, cap, cur, hv, hbg, hh, r⟩
  · exact Or.inl h1
  · refine Or.inr ⟨g, cap, cur, hv, hbg, ?_, r⟩
    rw [hg.block g (Array.getElem?_eq_some_iff.1 hh).1 (fun e => hne g (by rw [hv]; rfl) e.symm)]
    exact hh
theorem grown_row {W : World} (k : Nat) (cs : Array Value) : W.grownBy (W.setRow k cs) (some k) := ⟨rfl, rfl, rfl, by simp, fun j _ hj => setRow_other W k j cs (fun e => hj (by rw [e]))⟩
set_option maxHeartbeats 400000 in
theorem cloneP_own (po : Option Addr) (c : Nat) (l : List Nat) (w : World) (hl : PAt w po l) (hn : po = none → l = []) (hb : l.length ≤ 140737488351232) :
    Calls Tryz.prog 29 #[.slice po l.length c] w fun e w' => ∃ v, e = .returned v ∧ OwnP w' w.heap.size v l ∧ Below w.heap.size w w' := by
  have q22 : ∀ (w : World) (a : Option Addr) (n c n' c' : Nat), (binOp .eql 44 (.slice a n c) (.slice none n' c')).run Tryz.prog w = .ok (.bool a.isNone) w := fun w a n c n' c' => Lib.run_eql_slice_nil w _ _ a n c n' c' Tryz.underlying44
  obtain ⟨i0, hi, hz0, hz1, hz2⟩ := info_parts infoTyV
  cases po with
  | none =>
    have hl0 := hn rfl
    subst hl0
    go_enter Tryz.func29, Tryz.ntmps29
    go_wp2
    go_ret
    exact ⟨_, rfl, World.ownsRow_nil _ _ _ _, Below.refl _ _⟩
  | some x =>
    go_enter Tryz.func29, Tryz.ntmps29
    go_wp2_with (at_builtin; refine wpList_append_own _ rfl _ _ 44 rfl w.heap.size 26 i0 (.int .u8 0) 1 1 Tryz.underlying44 hi hz0 hz1 hz2 rfl (by decide) _ 0 [] rfl (World.ownsRow_made w #[] 0 (Nat.le_refl _) (by decide) rfl) x l.length c (slV l) rfl ?c0 ?c1 ?c2 ?c3 ?c4 ?c5 ?_)
    case c0 => simp [slV_length]
    case c1 =>
      intro j u hj
      have hjl : j < l.length := by
        have := (List.getElem?_eq_some_iff.1 hj).1
        rw [slV_length] at this; exact this
      have hx := List.getElem?_eq_getElem hjl
      obtain ⟨b, off, e, hc⟩ := hl j _ hx
      injection e with e
      subst e
      rw [slV_get hx] at hj
      injection hj with hj
      subst hj
      have hlt := World.block_lt_of_cell? w _ hc
      rw [Addr.add_lit]
      exact (((Below.refl w.heap.size w).alloc (Nat.le_refl _) _).cell (p := ⟨b, off + j, none⟩) hlt).trans hc
    case c2 => exact slV_one l
    case c3 => unfold maxLen; omega
    case c4 => omega
    case c5 => simp
    · intro v' w1 hown hgrow hnil
      go_wp2
      go_ret
      exact ⟨_, rfl, hown, ((Below.refl w.heap.size w).alloc (Nat.le_refl _) _).trans ((Below.refl _ _).grown hgrow (by simp) (fun k e => by simp [Value.ownBlock] at e; omega))⟩

set_option maxRecDepth 20000 in
set_option maxHeartbeats 1000000 in
theorem Sig_any (po : Option Addr) (c : Nat) (ps : List Nat) (rt : Nat) (w : World) (hl : PAt w po ps) (hn : po = none → ps = []) (hb : ps.length ≤ 140737488351232) :
    Calls Tryz.prog 15 #[.agg #[.slice po ps.length c, .int .u8 (rt : Int)]] w fun e w' => ∃ va vc, e = .returned (.agg #[.slice va ps.length vc, .int .u8 (rt : Int)]) ∧ OwnP w' w.heap.size (.slice va ps.length vc) ps ∧ Below w.heap.size w w' := by
  have al1 := (Below.refl w.heap.size w).alloc (Nat.le_refl _) (.cells #[.slice po ps.length c, .int .u8 (rt : Int)] 46)
  have al := al1.alloc (by simp) (.cells #[.slice none 0 0, .int .u8 0] 46)
  have HB := hide al
  have n1 := heap_alloc_new w (.cells #[.slice po ps.length c, .int .u8 (rt : Int)] 46)
  have n2 := heap_alloc_new (w.alloc (.cells #[.slice po ps.length c, .int .u8 (rt : Int)] 46)) (.cells #[.slice none 0 0, .int .u8 0] 46)
  rw [World.size_alloc] at n2
  have HC1 : Hid (SBx ((w.alloc (.cells #[.slice po ps.length c, .int .u8 (rt : Int)] 46)).alloc (.cells #[.slice none 0 0, .int .u8 0] 46)) w.heap.size (.slice po ps.length c) rt) := hide ((((Below.refl _ _).alloc (Nat.le_refl _) _).block w.heap.size (by simp)).trans n1)
  have HC2 : Hid (SBx ((w.alloc (.cells #[.slice po ps.length c, .int .u8 (rt : Int)] 46)).alloc (.cells #[.slice none 0 0, .int .u8 0] 46)) (w.heap.size + 1) (.slice none 0 0) 0) := hide n2
  have HCl := hide (cloneP_own po c ps _ (hl.below al) hn hb)
  have hsz : ((w.alloc (.cells #[.slice po ps.length c, .int .u8 (rt : Int)] 46)).alloc (.cells #[.slice none 0 0, .int .u8 0] 46)).heap.size = w.heap.size + 2 := by simp
  clear al1 al n1 n2 hl
  go_enter Tryz.func15, Tryz.ntmps15
  go_upto_region 1 with fail
  generalize ((w.alloc (.cells #[.slice po ps.length c, .int .u8 (rt : Int)] 46)).alloc (.cells #[.slice none 0 0, .int .u8 0] 46)) = W1 at HB HC1 HC2 HCl hsz ⊢
  have k1 := (unhide HC1).c0
  go_wp2_with fail
  refine (unhide HCl).mono ?_
  rintro e W2 ⟨v, rfl, hO, hB2⟩
  obtain ⟨va, vc, rfl, _, _⟩ := hO.at
  have HD1 : Hid (SBx W2 w.heap.size (.slice po ps.length c) rt) := hide ((hB2.block _ (by omega)).trans (unhide HC1))
  have HD2 : Hid (SBx W2 (w.heap.size + 1) (.slice none 0 0) 0) := hide ((hB2.block _ (by omega)).trans (unhide HC2))
  have HB2 := hide ((unhide HB).trans (hB2.mono (unhide HB).size))
  have HO := hide hO
  have k2 := (unhide HD1).c0
  have k3 := (unhide HD1).f 0
  have HD3 := hide ((unhide HD1).set0 (.slice va ps.length vc))
  clear hO hB2 k1 HC1 HC2
  go_upto_region 2 with fail
  have HB3 : Hid (Below w.heap.size w (W2.setCell ⟨w.heap.size, 0, none⟩ (.slice va ps.length vc))) := hide ((unhide HB2).setCell (p := ⟨w.heap.size, 0, none⟩) (Nat.le_refl _) (.slice va ps.length vc))
  have HD4 : Hid (SBx (W2.setCell ⟨w.heap.size, 0, none⟩ (.slice va ps.length vc)) (w.heap.size + 1) (.slice none 0 0) 0) := hide ((Below.heap_setCell W2 ⟨w.heap.size, 0, none⟩ (.slice va ps.length vc) (w.heap.size + 1) (by simp)).trans (unhide HD2))
  have HO3 : Hid (OwnP (W2.setCell ⟨w.heap.size, 0, none⟩ (.slice va ps.length vc)) W1.heap.size (.slice va ps.length vc) ps) := hide (rows_grownG (unhide HO) (grownBy_set W2 w.heap.size 0 (.slice va ps.length vc)) (fun g e e2 => by have := (World.ownsRow.lt (unhide HO) g e).1; injection e2 with e2; omega))
  generalize W2.setCell ⟨w.heap.size, 0, none⟩ (.slice va ps.length vc) = W3 at HB3 HD3 HD4 HO3 ⊢
  have HD5 : Hid (SBx (W3.setRow (w.heap.size + 1) #[.slice va ps.length vc, .int .u8 (rt : Int)]) (w.heap.size + 1) (.slice va ps.length vc) rt) := hide (setRow_heap _ _ _ _ _ _ (unhide HD4))
  have HO5 : Hid (OwnP (W3.setRow (w.heap.size + 1) #[.slice va ps.length vc, .int .u8 (rt : Int)]) w.heap.size (.slice va ps.length vc) ps) := hide (rowMono (rows_grownG (unhide HO3) (grown_row (w.heap.size + 1) _) (fun g e e2 => by have := (World.ownsRow.lt (unhide HO3) g e).1; injection e2 with e2; omega)) (by omega))
  clear k2 k3
  go_wp2_with (first | (refine wpList_load_rowG (by kernel_rfl) 46 (.tmp 1) rfl w.heap.size rfl 46 #[.slice va ps.length vc, .int .u8 (rt : Int)] (0, 0) _ (unhide HD3) Tryz.underlying46 rfl (by kernel_rfl) ?_) | (refine wpList_store_row rfl 46 (.tmp 2) (.tmp 7) rfl (w.heap.size + 1) #[.slice va ps.length vc, .int .u8 (rt : Int)] rfl rfl 46 #[.slice none 0 0, .int .u8 0] (unhide HD4) (by kernel_rfl) rfl (by simp [Value.oneCell']) ?_))
  refine bodyPost_ret (results_sg1 rfl _ _ (w.heap.size + 1) (.slice va ps.length vc) rt rfl (unhide HD5)) rfl ⟨_, _, rfl, unhide HO5, below_setRow' (unhide HB3) (by omega) _⟩

set_option maxRecDepth 20000 in
set_option maxHeartbeats 1000000 in
theorem SameSig_yes (po go : Option Addr) (pc gc : Nat) (l : List Nat) (rt : Nat) (w : World) (h : PAt w po l) (hg : PAt w go l) (hb : l.length ≤ 140737488351232) :
    Calls Tryz.prog 23 #[.agg #[.slice po l.length pc, .int .u8 (rt : Int)], .agg #[.slice go l.length gc, .int .u8 (rt : Int)]] w fun e w' => e = .returned (.bool true) ∧ Below w.heap.size w w' := by
  have al1 := (Below.refl w.heap.size w).alloc (Nat.le_refl _) (.cells #[.slice po l.length pc, .int .u8 (rt : Int)] 46)
  have al := al1.alloc (by simp) (.cells #[.slice go l.length gc, .int .u8 (rt : Int)] 46)
  have HB := hide al
  have n1 := heap_alloc_new w (.cells #[.slice po l.length pc, .int .u8 (rt : Int)] 46)
  have n2 := heap_alloc_new (w.alloc (.cells #[.slice po l.length pc, .int .u8 (rt : Int)] 46)) (.cells #[.slice go l.length gc, .int .u8 (rt : Int)] 46)
  rw [World.size_alloc] at n2
  have HC1 : Hid (SBx ((w.alloc (.cells #[.slice po l.length pc, .int .u8 (rt : Int)] 46)).alloc (.cells #[.slice go l.length gc, .int .u8 (rt : Int)] 46)) w.heap.size (.slice po l.length pc) rt) := hide ((((Below.refl _ _).alloc (Nat.le_refl _) _).block w.heap.size (by simp)).trans n1)
  have HC2 : Hid (SBx ((w.alloc (.cells #[.slice po l.length pc, .int .u8 (rt : Int)] 46)).alloc (.cells #[.slice go l.length gc, .int .u8 (rt : Int)] 46)) (w.heap.size + 1) (.slice go l.length gc) rt) := hide n2
  have HE := hide (equalP_yes po go pc gc l _ (h.below al) (hg.below al) hb)
  have b1 : (((rt : Nat) : Int) == ((rt : Nat) : Int)) = true := by simp
  clear al1 al n1 n2 h hg
  go_enter Tryz.func23, Tryz.ntmps23
  go_upto_region 1 with fail
  generalize ((w.alloc (.cells #[.slice po l.length pc, .int .u8 (rt : Int)] 46)).alloc (.cells #[.slice go l.length gc, .int .u8 (rt : Int)] 46)) = W1 at HB HC1 HC2 HE ⊢
  have k1 := (unhide HC1).c0
  have k2 := (unhide HC1).c1
  have k3 := (unhide HC2).c0
  have k4 := (unhide HC2).c1
  go_wp2_with fail
  refine (unhide HE).mono ?_
  rintro e W2 ⟨rfl, q, rfl⟩
  go_wp2
  go_ret
  exact ⟨rfl, belowD (unhide HB) _⟩
end Go.Proofs.YtkodmpcnndbngaaGreatDoor

namespace Go.Proofs.YtkodmpcnndbngaaGreatDoor
open Go.RowKit

/-- Is a signature of stored types (its result may be none)? -/
def sgD (n : Nat) (ps : List Nat) (rt : Nat) : Bool := ps.all (storedD n) && (rt == 0 || storedD n rt)
/-- What a signature's check says. -/
def sgE (n : Nat) (ps : List Nat) (rt : Nat) : Int := if 8 < ps.length then 4 else if sgD n ps rt = true then 0 else 22
theorem start16 {n : Nat} {ps : List Nat} (h : ps.length ≤ 8) : ((startD n ps 16).2 == 0) = ps.all (storedD n) := by
  unfold startD
  rw [if_neg (by omega)]
  cases ps.all (storedD n) <;> rfl

theorem ret_boolG {a b : Bool} (h : a = b) : Ending.returned (.bool a) = .returned (.bool b) := by rw [h]
end Go.Proofs.YtkodmpcnndbngaaGreatDoor

/-
  provisoplain.Env and SameEnv: an environment's copy in memory of its own, the same but for where it lies. Conditions: lengths fit.
-/
namespace Go.Proofs.YtkodmpcnndbngaaGreatDoor
open Go.RowKit
set_option maxRecDepth 20000

structure SameS (x y : Sg) : Prop where
  ps : y.ps = x.ps
  rt : y.rt = x.rt
def SameL (L M : List Sg) : Prop := M.length = L.length ∧ ∀ (i : Nat) x y, L[i]? = some x → M[i]? = some y → SameS x y
def scells (y : Sg) : List Value := [.slice y.po y.ps.length y.pc, .int .u8 (y.rt : Int)]
def svals (G : List Sg) : List Value := G.flatMap scells
theorem svals_length (l : List Sg) : (svals l).length = l.length * 2 := by
  unfold svals
  induction l with
  | nil => rfl
  | cons f l ih => rw [List.flatMap_cons, List.length_append, ih]; simp [scells]; omega
theorem svals_snoc (l : List Sg) (y : Sg) : svals (l ++ [y]) = svals l ++ scells y := by unfold svals; simp
theorem svals_get : ∀ {l : List Sg} {i : Nat} {f : Sg}, l[i]? = some f → (svals l)[i * 2]? = some (.slice f.po f.ps.length f.pc) ∧ (svals l)[i * 2 + 1]? = some (.int .u8 (f.rt : Int))
  | [], i, f, h => by simp at h
  | g :: l, 0, f, h => by
    simp at h
    subst h
    unfold svals
    rw [List.flatMap_cons]
    exact ⟨rfl, rfl⟩
  | g :: l, i + 1, f, h => by
    have h' : l[i]? = some f := by simpa using h
    obtain ⟨h1, h2⟩ := svals_get h'
    unfold svals at h1 h2 ⊢
    rw [List.flatMap_cons]
    refine ⟨?_, ?_⟩
    · rw [List.getElem?_append_right (by simp [scells]; omega)]
      rw [← h1]; congr 1; simp [scells]; omega
    · rw [List.getElem?_append_right (by simp [scells]; omega)]
      rw [← h2]; congr 1; simp [scells]; omega
theorem infoSg : (Tryz.prog.info? 46).map (fun i => (i.zero, i.size, i.bytes)) = some (some (.agg #[.slice none 0 0, .int .u8 0]), 2, 32) := by kernel_rfl
def OwnS (w : World) (base : Nat) (v : Value) (G : List Sg) : Prop := w.ownsRow base 46 2 v G.length (svals G)
structure CopyS (w : World) (base : Nat) (x y : Sg) : Prop where
  same : SameS x y
  own : OwnP w base (.slice y.po y.ps.length y.pc) y.ps
theorem CopyS.grown {w w' : World} {base : Nat} {x y : Sg} {v : Value} {n : Nat} {cs : List Value} (h : CopyS w base x y) (hv : w.ownsRow base 46 2 v n cs) (hg : w.grownBy w' v.ownBlock) : CopyS w' base x y := by
  refine ⟨h.same, rows_grownG h.own hg ?_⟩
  intro g hb e
  obtain ⟨c1, g1⟩ := rowTy h.own g hb
  obtain ⟨c2, g2⟩ := rowTy hv g e
  rw [g1] at g2
  simp at g2
theorem CopyS.below {w w' : World} {base : Nat} {x y : Sg} (h : CopyS w base x y) (hb : Below w.heap.size w w') : CopyS w' base x y := ⟨h.same, rowBelow h.own hb⟩
theorem CopyS.box {w w' : World} {base k : Nat} {x y : Sg} (h : CopyS w base x y) (hg : w.grownBy w' (some k)) (hk : k < base) : CopyS w' base x y :=
  ⟨h.same, rows_grownG h.own hg (fun g e e2 => by have := (World.ownsRow.lt h.own g e).1; injection e2 with e2; omega)⟩
theorem copy_sigs {w w0 : World} {base : Nat} {ao : Option Addr} {L M : List Sg} {v : Value} (hL : SgsAt w0 ao L) (hO : OwnS w base v M) (hl : M.length = L.length) (hc : ∀ (i : Nat) x y, L[i]? = some x → M[i]? = some y → CopyS w base x y) : ∃ sa sc, v = .slice sa M.length sc ∧ SgsAt w sa M ∧ SameL L M := by
  have hs : SameL L M := ⟨hl, fun i x y hx hy => (hc i x y hx hy).same⟩
  rcases hO.2 with ⟨h1, h2⟩ | ⟨g, cap, cur, rfl, hb, hh, hn, hm, hsz, ht⟩
  · have := List.eq_nil_of_length_eq_zero h2
    subst this
    exact ⟨none, 0, h1, fun i x hx => by simp at hx, hs⟩
  · refine ⟨_, cap, rfl, fun i y hy => ⟨g, 0, rfl, ?_⟩, hs⟩
    have hi := (List.getElem?_eq_some_iff.1 hy).1
    have hx := List.getElem?_eq_getElem (show i < L.length by omega)
    have hcy := hc i _ y hx hy
    obtain ⟨_, _, _, hxa⟩ := hL i _ hx
    obtain ⟨h1, h2⟩ := svals_get hy
    obtain ⟨fa, fc, ef, hfa, hfb⟩ := hcy.own.at
    injection ef with ef1 _ ef2
    rw [← ef1] at hfa
    refine ⟨?_, ?_, hfa, ?_, by rw [hcy.same.ps]; exact hxa.ok.bts, by rw [hcy.same.ps]; exact hxa.ok.fit, by rw [hcy.same.rt]; exact hxa.ok.res⟩
    · rw [Nat.zero_add, World.ownsRow.cellAt hO (i * 2) (by omega)]; exact h1
    · rw [Nat.zero_add, World.ownsRow.cellAt hO (i * 2 + 1) (by omega)]; exact h2
    · intro e
      cases hps : y.ps with
      | nil => rfl
      | cons t l =>
        obtain ⟨b, off, e', _⟩ := hfa 0 t (by rw [hps]; rfl)
        rw [e] at e'
        cases e'
/-- A table stays where a block is written in which there is no text. -/
theorem TabAt.grownK {W W' : World} {ao : Option Addr} {T : List Cl} {k : Nat} (h : TabAt W ao T) (hg : W.grownBy W' (some k)) (hne : ∀ o s, W.cell? ⟨k, o, none⟩ ≠ some (.string s)) : TabAt W' ao T := fun i x hx => by
  obtain ⟨b, off, e, hc⟩ := h i x hx
  have hb : b ≠ k := fun e => hne _ _ (by rw [← e]; exact hc.c0)
  have hl : b < W.heap.size := World.block_lt_of_cell? W _ hc.c0
  have kk : ∀ j, W'.cell? ⟨b, j, none⟩ = W.cell? ⟨b, j, none⟩ := fun j => hg.cell_far ⟨b, j, none⟩ hl (fun e => hb (by injection e))
  refine ⟨b, off, e, ⟨(kk _).trans hc.c0, (kk _).trans hc.c1, (kk _).trans hc.c2, ?_, hc.nil, hc.cap, hc.fit, hc.name, hc.par⟩⟩
  intro i f hf'
  obtain ⟨b', off', e', hfl⟩ := hc.flds i f hf'
  have hb' : b' ≠ k := fun e => hne _ _ (by rw [← e]; exact hfl.c0)
  have hl' : b' < W.heap.size := World.block_lt_of_cell? W _ hfl.c0
  have k' : ∀ j, W'.cell? ⟨b', j, none⟩ = W.cell? ⟨b', j, none⟩ := fun j => hg.cell_far ⟨b', j, none⟩ hl' (fun e => hb' (by injection e))
  exact ⟨b', off', e', ⟨(k' _).trans hfl.c0, (k' _).trans hfl.c1, hfl.name, hfl.ty⟩⟩
theorem EBx.noText {W : World} {g : Nat} {a b c : Nat} {x y : Option Addr} {d : Nat} {n : Int} (h : EBx W g (.slice x a b) (.slice y c d) n) : ∀ o s, W.cell? ⟨g, o, none⟩ ≠ some (.string s) := by
  intro o s e
  rw [cell_of_row _ _ _ _ _ _ h] at e
  match o, e with
  | 0, e => simp at e
  | 1, e => simp at e
  | 2, e => simp at e
  | o + 3, e => simp at e
theorem EBx.set0 {W : World} {g : Nat} {v u : Value} {n : Int} (h : EBx W g v u n) (v' : Value) : EBx (W.setCell ⟨g, 0, none⟩ v') g v' u n := by
  unfold EBx at h ⊢
  simp only [World.setCell, Array.getElem?_modify, if_true, h]
  rfl
theorem EBx.set2 {W : World} {g : Nat} {v u : Value} {n : Int} (h : EBx W g v u n) (n' : Int) : EBx (W.setCell ⟨g, 2, none⟩ (.int .i64 n')) g v u n' := by
  unfold EBx at h ⊢
  simp only [World.setCell, Array.getElem?_modify, if_true, h]
  rfl
theorem grownBy_more {W0 W W' : World} {k : Nat} {row : Option Nat} (h : W0.grownBy W (some k)) (hg : W.grownBy W' row) (hr : ∀ q, row = some q → W0.heap.size ≤ q ∨ q = k) : W0.grownBy W' (some k) :=
  ⟨hg.os.trans h.os, hg.tape.trans h.tape, hg.output.trans h.output, Nat.le_trans h.size hg.size, fun j hj hn => (hg.block j (Nat.lt_of_lt_of_le hj h.size) (fun e => by
    rcases hr j e.symm with h1 | h1
    · omega
    · exact hn (by rw [h1]))).trans (h.block j hj hn)⟩
theorem grownBy_sets (W : World) (b : Nat) (x y z : Value) : W.grownBy (((W.setCell ⟨b, 0, none⟩ x).setCell ⟨b, 1, none⟩ y).setCell ⟨b, 2, none⟩ z) (some b) :=
  grownBy_more (grownBy_more (grownBy_set W b 0 x) (grownBy_set _ b 1 y) (fun q e => .inr (by injection e with e; omega))) (grownBy_set _ b 2 z) (fun q e => .inr (by injection e with e; omega))
theorem OwnS.slice {w : World} {base : Nat} {v : Value} {G : List Sg} (h : OwnS w base v G) : ∃ va vc, v = .slice va G.length vc := by
  rcases h.2 with ⟨h1, h2⟩ | ⟨g, cap, cur, rfl, _⟩
  · exact ⟨none, 0, by rw [h1, h2]⟩
  · exact ⟨_, _, rfl⟩
theorem scells_one (y : Sg) : ∀ u ∈ scells y, u.oneCell' = true := by
  intro u hu
  simp only [scells, List.mem_cons, List.mem_nil_iff, or_false] at hu
  rcases hu with rfl | rfl <;> rfl
theorem grown_ofBelow {w w' : World} (h : Below w.heap.size w w') (row : Option Nat) : w.grownBy w' row := ⟨h.os, h.tape, h.output, h.size, fun k hk _ => h.block k hk⟩
end Go.Proofs.YtkodmpcnndbngaaGreatDoor

namespace Go.Proofs.YtkodmpcnndbngaaGreatDoor
open Go.RowKit

/-- Where an environment's copy is made: the new box, the table's copy. -/
structure EMid (w W : World) (T : List Cl) (fn : Int) (g : Nat) (ga : Option Addr) (gc : Nat) (G : List Cl) : Prop where
  box : EBx W g (.slice ga G.length gc) (.slice none 0 0) fn
  ge : w.heap.size + 2 ≤ g
  old : EBx W (w.heap.size + 1) (.slice none 0 0) (.slice none 0 0) 0
  tab : TabAt W ga G
  same : SameT T G
  cap : G.length ≤ gc
  bel : Below w.heap.size w W

/-- While signatures are copied. -/
structure ERun (wc wr : World) (L : List Sg) (tv : Value) (fn : Int) (g : Nat) (v : Value) (M : List Sg) : Prop where
  box : EBx wr g tv v fn
  own : OwnS wr wc.heap.size v M
  cps : ∀ (i : Nat) x y, L[i]? = some x → M[i]? = some y → CopyS wr wc.heap.size x y
  grw : wc.grownBy wr (some g)
theorem ERun.step {wc wr w2 w3 : World} {L M : List Sg} {tv v v' : Value} {fn : Int} {g : Nat} {x : Sg} {pa : Option Addr} {pc2 b2 : Nat} {obj : Obj} (h : ERun wc wr L tv fn g v M) (hgl : g < wc.heap.size) (hB : Below wr.heap.size wr w2) (hO2 : OwnP w2 b2 (.slice pa x.ps.length pc2) x.ps) (hb2 : wc.heap.size ≤ b2) (hx : L[M.length]? = some x) (hown : w3.ownsRow wc.heap.size 46 2 v' (M.length + 1) (svals M ++ scells ⟨pa, pc2, x.ps, x.rt⟩)) (hg : (w2.alloc obj).grownBy w3 v.ownBlock) : ERun wc (w3.setCell ⟨g, 1, none⟩ v') L tv fn g v' (M ++ [⟨pa, pc2, x.ps, x.rt⟩]) := by
  have hB3 : Below wr.heap.size wr (w2.alloc obj) := hB.alloc hB.size _
  have hgr : g < wr.heap.size := h.box.lt
  have hS3 : OwnS (w2.alloc obj) wc.heap.size v M := rowBelow h.own hB3
  have hvg : v.ownBlock ≠ some g := fun e => by have := (World.ownsRow.lt h.own g e).1; omega
  have hbx : EBx w3 g tv v fn := ((hg.block g (Nat.lt_of_lt_of_le hgr hB3.size) (fun e => hvg e.symm)).trans (hB3.block g hgr)).trans h.box
  have hset := grownBy_set w3 g 1 v'
  refine ⟨hbx.set1 v', ?_, ?_, ?_⟩
  · unfold OwnS
    rw [svals_snoc, List.length_append]
    exact rows_grownG hown hset (fun q e e2 => by have := (World.ownsRow.lt hown q e).1; injection e2 with e2; omega)
  · intro i x' y' hx' hy'
    by_cases e : i < M.length
    · rw [List.getElem?_append_left e] at hy'
      exact (((h.cps i x' y' hx' hy').below hB3).grown hS3 hg).box hset hgl
    · rw [List.getElem?_append_right (by omega)] at hy'
      have e2 : i - M.length = 0 := by
        have := (List.getElem?_eq_some_iff.1 hy').1
        simp at this
        omega
      rw [e2] at hy'
      simp at hy'
      subst hy'
      have e3 : i = M.length := by omega
      subst e3
      rw [hx] at hx'
      injection hx' with hx'
      subst hx'
      have hcc : CopyS (w2.alloc obj) wc.heap.size x ⟨pa, pc2, x.ps, x.rt⟩ := ⟨⟨rfl, rfl⟩, rowMono (World.ownsRow.alloc hO2 _) hb2⟩
      exact (hcc.grown hS3 hg).box hset hgl
  · exact grownBy_more (grownBy_more (grownBy_more h.grw (grown_ofBelow hB3 none) (fun q e => by cases e)) hg (fun q e => .inl (World.ownsRow.lt h.own q e).1)) hset (fun q e => .inr (by injection e with e; exact e.symm))
set_option maxRecDepth 20000 in
set_option maxHeartbeats 4000000 in
theorem Env_any (ao : Option Addr) (cap : Nat) (T : List Cl) (so : Option Addr) (sc : Nat) (L : List Sg) (fn : Int) (w : World) (hT : TabAt w ao T) (hz : T.length * 48 ≤ 140737488351232) (hL : SgsAt w so L) (hzl : L.length * 32 ≤ 140737488351232) :
    Calls Tryz.prog 6 #[.agg #[.slice ao T.length cap, .slice so L.length sc, .int .i64 fn]] w fun e w' => ∃ ga gc G va vc M, e = .returned (.agg #[.slice ga (G : List Cl).length gc, .slice va (M : List Sg).length vc, .int .i64 fn]) ∧ TabAt w' ga G ∧ SameT T G ∧ G.length ≤ gc ∧ SgsAt w' va M ∧ SameL L M ∧ Below w.heap.size w w' := by
  obtain ⟨i0, hi0, hz0, hz1, hz2⟩ := info_parts infoSg
  have al1 := (Below.refl w.heap.size w).alloc (Nat.le_refl _) (.cells #[.slice ao T.length cap, .slice so L.length sc, .int .i64 fn] 25)
  have al := al1.alloc (by simp) (.cells #[.slice none 0 0, .slice none 0 0, .int .i64 0] 25)
  have HB := hide al
  have n1 := heap_alloc_new w (.cells #[.slice ao T.length cap, .slice so L.length sc, .int .i64 fn] 25)
  have n2 := heap_alloc_new (w.alloc (.cells #[.slice ao T.length cap, .slice so L.length sc, .int .i64 fn] 25)) (.cells #[.slice none 0 0, .slice none 0 0, .int .i64 0] 25)
  rw [World.size_alloc] at n2
  have HC1 : Hid (EBx ((w.alloc (.cells #[.slice ao T.length cap, .slice so L.length sc, .int .i64 fn] 25)).alloc (.cells #[.slice none 0 0, .slice none 0 0, .int .i64 0] 25)) w.heap.size (.slice ao T.length cap) (.slice so L.length sc) fn) := hide ((((Below.refl _ _).alloc (Nat.le_refl _) _).block w.heap.size (by simp)).trans n1)
  have HC2 : Hid (EBx ((w.alloc (.cells #[.slice ao T.length cap, .slice so L.length sc, .int .i64 fn] 25)).alloc (.cells #[.slice none 0 0, .slice none 0 0, .int .i64 0] 25)) (w.heap.size + 1) (.slice none 0 0) (.slice none 0 0) 0) := hide n2
  have hsz : ((w.alloc (.cells #[.slice ao T.length cap, .slice so L.length sc, .int .i64 fn] 25)).alloc (.cells #[.slice none 0 0, .slice none 0 0, .int .i64 0] 25)).heap.size = w.heap.size + 2 := by simp
  have HT := hide hT
  have HL := hide hL
  have HZ := hide hz
  have HZL := hide hzl
  have hll : L.length < 9223372036854775000 := by omega
  clear al1 al n1 n2 hT hL hz hzl
  go_enter Tryz.func6, Tryz.ntmps6
  go_upto_region 1 with fail
  generalize ((w.alloc (.cells #[.slice ao T.length cap, .slice so L.length sc, .int .i64 fn] 25)).alloc (.cells #[.slice none 0 0, .slice none 0 0, .int .i64 0] 25)) = W1 at HB HC1 HC2 hsz ⊢
  go_cut [3] (fun s3 wx => ∃ g ga gc G, s3 = .pointer (some ⟨g, 0, none⟩) ∧ Hid (EMid w wx T fn g ga gc G) ∧ Hid (EBx wx w.heap.size (.slice ao T.length cap) (.slice so L.length sc) fn))
  case first =>
    have k0 := (unhide HC1).c0
    have k2 := (unhide HC1).c2
    have hlt : w.heap.size < W1.heap.size := by omega
    have HSZ := hide hsz
    clear hsz
    have ne0 := World.new_ne W1 _ k0
    have ne2 := World.new_ne W1 _ k2
    go_region_held3 (fun w' => w'.cell? ⟨w.heap.size, 0, none⟩ = some (.slice ao T.length cap) ∧ w'.cell? ⟨w.heap.size, 2, none⟩ = some (.int .i64 fn)) (first | exact ⟨q0, q2⟩ | go_keep) (first | (go_at_call 14; refine (Classes_cap ao cap T _ (by exact (unhide HT).below (by first | exact belowD (unhide HB) 1 | exact (belowD (unhide HB) 1).alloc (by have := unhide HSZ; simp; omega) _)) (unhide HZ)).mono ?_; rintro e w2 ⟨ga, gc, G, rfl, hG, hS, hB2, hcp⟩; have q0 : w2.cell? ⟨w.heap.size, 0, none⟩ = some (.slice ao T.length cap) := (hB2.cell (p := ⟨w.heap.size, 0, none⟩) (by have := unhide HSZ; simp; omega)).trans (by first | exact k0 | exact (((Below.refl W1.heap.size W1).alloc (Nat.le_refl _) _).cell (p := ⟨w.heap.size, 0, none⟩) hlt).trans k0); have q2 : w2.cell? ⟨w.heap.size, 2, none⟩ = some (.int .i64 fn) := (hB2.cell (p := ⟨w.heap.size, 2, none⟩) (by have := unhide HSZ; simp; omega)).trans (by first | exact k2 | exact (((Below.refl W1.heap.size W1).alloc (Nat.le_refl _) _).cell (p := ⟨w.heap.size, 2, none⟩) hlt).trans k2); have ne3 := World.new_ne w2 _ q0; have ne4 := World.new_ne w2 _ q2; (first | (have hE : EBx w2 W1.heap.size (.slice none 0 0) (.slice none 0 0) 0 := (hB2.block _ (by simp)).trans (heap_alloc_new W1 _); have e0 := hE.c0; have e1 := hE.c1; have e2 := hE.c2; have f0 := hE.f 0; have f1 := hE.f 1; have f2 := hE.f 2) | skip)) | fail)
    · go_wp2_with fail
      go_meet
      have hB3 : Below W1.heap.size W1 w2 := (show Below W1.heap.size W1 W1.drew from belowD (Below.refl _ _) 1).trans hB2
      have hall := (Below.refl w2.heap.size w2).alloc (Nat.le_refl _) (.cells #[.slice ga G.length gc, .slice none 0 0, .int .i64 fn] 25)
      have hsz := unhide HSZ
      have hs2 := hB3.size
      exact ⟨w2.heap.size, ga, gc, G, rfl, hide ⟨heap_alloc_new w2 _, by omega, ((hall.block _ (by omega)).trans (hB3.block _ (by omega))).trans (unhide HC2), hG.below hall, hS, hcp, (unhide HB).trans ((hB3.trans (hall.mono hs2)).mono (unhide HB).size)⟩, hide (((hall.block _ (by omega)).trans (hB3.block _ (by omega))).trans (unhide HC1))⟩
    · go_wp2_with fail
      go_meet
      have hsz := unhide HSZ
      have hall := (Below.refl W1.heap.size W1).alloc (Nat.le_refl _) (.cells #[.slice none 0 0, .slice none 0 0, .int .i64 0] 25)
      have hB3 : Below W1.heap.size W1 w2 := (show Below W1.heap.size W1 (W1.drew.alloc (.cells #[.slice none 0 0, .slice none 0 0, .int .i64 0] 25)) from (show Below W1.heap.size W1 W1.drew from belowD (Below.refl _ _) 1).alloc (Nat.le_refl _) _).trans (hB2.mono (by simp))
      have hs2 := hB3.size
      have hg := grownBy_sets w2 W1.heap.size (.slice ga G.length gc) (.slice none 0 0) (.int .i64 fn)
      have hb4 := (unhide HB).trans (hB3.mono (unhide HB).size)
      refine ⟨W1.heap.size, ga, gc, G, rfl, hide ⟨((hE.set0 _).set1 _).set2 _, by omega, ?_, hG.grownK hg hE.noText, hS, hcp, ?_⟩, hide ?_⟩
      · exact ((hg.block (w.heap.size + 1) (by omega) (fun e => by injection e with e; omega)).trans (hB3.block _ (by omega))).trans (unhide HC2)
      · exact hb4.grown hg hb4.size (fun q e => by injection e with e; omega)
      · exact ((hg.block w.heap.size (by omega) (fun e => by injection e with e; omega)).trans (hB3.block _ (by omega))).trans (unhide HC1)
  case rest =>
    obtain ⟨g, ga, gc, G, rfl, HM, HX⟩ := hcut
    clear HB HC1 HC2 hsz W1
    have x1 := (unhide HX).c1
    go_wp2_with fail
    clear x1 HX
    have HGE := hide (unhide HM).ge
    have HGL := hide (unhide HM).box.lt
    have HBC := hide (unhide HM).bel
    obtain ⟨tv, HTV⟩ : ∃ tv, Hid (Value.slice ga G.length gc = tv) := ⟨_, hide rfl⟩
    go_loopw [15] (fun i wr => ∃ (k : Nat) (M : List Sg) (v : Value), k ≤ L.length ∧ i = .int .i64 (k : Int) ∧ Hid (M.length = k) ∧ Hid (ERun wc wr L tv fn g v M)) (fun i _ => L.length - (intOf i).toNat)
    case atStart => exact ⟨0, [], .slice none 0 0, by omega, rfl, hide rfl, hide ⟨by rw [← unhide HTV]; exact (unhide HM).box, World.ownsRow_nil _ _ _ _, fun i x y _ hy => by simp at hy, ⟨rfl, rfl, rfl, Nat.le_refl _, fun _ _ _ => rfl⟩⟩⟩
    case round =>
      obtain ⟨k, M, v, hk, rfl, HK, HR⟩ := hrel
      have HBr : Hid (Below w.heap.size w wr) := hide ((unhide HBC).grown (unhide HR).grw (unhide HBC).size (fun q e => by have := unhide HGE; injection e with e; omega))
      by_cases hlt : k < L.length
      · have i1 : ((k : Nat) : Int) < ((L.length : Nat) : Int) := by omega
        have hx := List.getElem?_eq_getElem hlt
        obtain ⟨b, off, rfl, hxa⟩ := (unhide HL).below (unhide HBr) k _ hx
        have c0 := hxa.c0
        have c1 := hxa.c1
        have HX := hide hx
        have HXA := hide hxa
        generalize L[k] = x at HX HXA c0 c1
        clear hx hxa
        go_upto_region 5 with fail
        obtain ⟨va, vc, rfl⟩ := (unhide HR).own.slice
        obtain ⟨FB, HFB⟩ : ∃ FB, Hid (wr.heap.size = FB) := ⟨_, hide rfl⟩
        obtain ⟨wa, HWa⟩ : ∃ wa, Hid (wr.alloc (Obj.cells #[Value.slice x.po x.ps.length x.pc, Value.int IntKind.u8 x.rt] 46) = wa) := ⟨_, hide rfl⟩
        have hBa : Below wr.heap.size wr wa := by rw [← unhide HWa]; exact (Below.refl _ _).alloc (Nat.le_refl _) _
        have hrow : wa.heap[FB]? = some (.cells #[Value.slice x.po x.ps.length x.pc, Value.int IntKind.u8 x.rt] 46) := by rw [← unhide HWa, ← unhide HFB]; exact heap_alloc_new wr _
        rw [unhide HWa, unhide HFB]
        have s0 : wa.cell? ⟨FB, 0, none⟩ = some (.slice x.po x.ps.length x.pc) := by rw [cell_of_row _ _ _ _ _ _ hrow]; rfl
        have s1 : wa.cell? ⟨FB, 1, none⟩ = some (.int .u8 x.rt) := by rw [cell_of_row _ _ _ _ _ _ hrow]; rfl
        have hgr := (unhide HR).box.lt
        have hba : EBx wa g tv (.slice va M.length vc) fn := (hBa.block g hgr).trans (unhide HR).box
        have a1 := hba.c1
        have hga := hba.lt
        have HBA := hide hBa
        have HPA := hide ((unhide HXA).ok.prm.below hBa)
        have HVG : Hid ((Value.slice va M.length vc).ownBlock ≠ some g) := hide (fun e => by have := (World.ownsRow.lt (unhide HR).own g e).1; have := unhide HGL; omega)
        have hwc : wc.heap.size ≤ wr.heap.size := (unhide HR).grw.size
        have HMk : Hid (M.length + 1 ≤ maxLen ∧ (M.length + 1) * 32 ≤ 140737488355328) := hide (by have := unhide HK; have := unhide HZL; unfold maxLen; omega)
        clear c0 c1 hBa hrow hba HWa
        go_region_law (first | (go_simp; go_at_call 15; refine (Sig_any x.po x.pc x.ps x.rt wa.drew (unhide HPA) (unhide HXA).ok.nil (unhide HXA).ok.fit).mono ?_; rintro e w2 ⟨pa, pc2, rfl, hO2, hB2⟩; have q1 : w2.cell? ⟨g, 1, none⟩ = some (.slice va M.length vc) := (hB2.cell (p := ⟨g, 1, none⟩) hga).trans a1; have ne1 := World.new_ne w2 _ q1; have hB3 : Below wr.heap.size wr w2 := (unhide HBA).trans ((show Below wa.heap.size wa w2 from (show Below wa.heap.size wa wa.drew from belowD (Below.refl _ _) 1).trans hB2).mono (unhide HBA).size); have hOd : (w2.alloc (.cells #[.slice pa x.ps.length pc2, .int .u8 (x.rt : Int)] 46)).ownsRow wc.heap.size 46 2 (.slice va M.length vc) M.length (svals M) := rowBelow (unhide HR).own (hB3.alloc hB3.size _); have HO2 := hide hO2; have HB3 := hide hB3; have HOd := hide hOd; have hw2 : wc.heap.size ≤ w2.heap.size := Nat.le_trans hwc hB3.size; have hg2 : g < w2.heap.size := Nat.lt_of_lt_of_le hgr hB3.size; clear hO2 hB3 hOd hB2) | (refine step_append_lies _ (by rfl) _ _ 23 (by rfl) wc.heap.size 46 i0 _ 2 32 Tryz.underlying23 hi0 hz0 hz1 hz2 rfl (by omega) (.slice va M.length vc) M.length (svals M) (by rfl) (unhide HOd) ⟨w2.heap.size, 0, none⟩ 1 1 (scells ⟨pa, pc2, x.ps, x.rt⟩) (by rfl) (by rfl) (World.news_of_block (cs := #[.slice pa x.ps.length pc2, .int .u8 (x.rt : Int)]) (t := 46) (fr := (0, 0)) (heap_alloc_new w2 _)) (scells_one _) (by omega) (unhide HMk).1 (unhide HMk).2 (by simp; omega) (w2.heap.size + 1) (by simp) ?_; intro g3 cap3 w3 hown hgrow hat hlt3; have r1 : w3.cell? ⟨g, 1, none⟩ = some (.slice va M.length vc) := (hgrow.cell_far ⟨g, 1, none⟩ (by simp; omega) (Ne.symm (unhide HVG))).trans ((((Below.refl w2.heap.size w2).alloc (Nat.le_refl _) _).cell (p := ⟨g, 1, none⟩) hg2).trans q1); have f1 : w3.frozen? ⟨g, 1, none⟩ = false := frozen_of_row _ _ _ _ _ ((hgrow.block g (by simp; omega) (Ne.symm (unhide HVG))).trans (((unhide HB3).alloc (unhide HB3).size _).block g hgr |>.trans (unhide HR).box)); have HR2 := hide ((unhide HR).step (unhide HGL) (unhide HB3) (unhide HO2) (b2 := wa.drew.heap.size) (Nat.le_trans hwc (unhide HBA).size) (by rw [unhide HK]; exact unhide HX) hown hgrow); have HK2 : Hid ((M ++ [(⟨pa, pc2, x.ps, x.rt⟩ : Sg)]).length = k + 1) := hide (by rw [List.length_append, unhide HK]; rfl); clear hown hgrow hat hlt3))
        all_goals (
          go_wp2
          go_roundw
          case rel => exact ⟨k + 1, _, _, by omega, by go_num, HK2, HR2⟩
          case measure => simp [intOf]; omega)
      · have i1 : ¬ ((k : Nat) : Int) < ((L.length : Nat) : Int) := by omega
        have ek : k = L.length := by omega
        obtain ⟨va, vc, rfl, hSg, hSm⟩ := copy_sigs (unhide HL) (unhide HR).own (by rw [unhide HK]; exact ek) (unhide HR).cps
        have HSG := hide hSg
        have HSM := hide hSm
        have HBX : Hid (EBx wr g (.slice ga G.length gc) (.slice va M.length vc) fn) := hide (by rw [unhide HTV]; exact (unhide HR).box)
        have HOX : Hid (EBx wr (w.heap.size + 1) (.slice none 0 0) (.slice none 0 0) 0) := hide (((unhide HR).grw.block _ (unhide HM).old.lt (fun e => by have := unhide HGE; injection e with e; omega)).trans (unhide HM).old)
        have HTB : Hid (TabAt wr ga G) := hide ((unhide HM).tab.grownK (unhide HR).grw (unhide HM).box.noText)
        clear hSg hSm ek
        go_upto_region 7 with fail
        have HRX : Hid (EBx (wr.setRow (w.heap.size + 1) #[.slice ga G.length gc, .slice va M.length vc, .int .i64 fn]) (w.heap.size + 1) (.slice ga G.length gc) (.slice va M.length vc) fn) := hide (setRow_heap _ _ _ _ _ _ (unhide HOX))
        have hgw := grown_row (W := wr) (w.heap.size + 1) #[.slice ga G.length gc, .slice va M.length vc, .int .i64 fn]
        have HT2 := hide ((unhide HTB).grownK hgw (unhide HOX).noText)
        have HS2 : Hid (SgsAt (wr.setRow (w.heap.size + 1) #[.slice ga G.length gc, .slice va M.length vc, .int .i64 fn]) va M) := hide (by
          have hwl : w.heap.size + 1 < wc.heap.size := (unhide HM).old.lt
          obtain ⟨va', vc', e, hs, _⟩ := copy_sigs (v := .slice va M.length vc) (unhide HL) (rows_grownG (unhide HR).own hgw (fun q e e2 => by have := (World.ownsRow.lt (unhide HR).own q e).1; injection e2 with e2; omega)) (by rw [unhide HK]; omega) (fun i x y hx hy => ((unhide HR).cps i x y hx hy).box hgw hwl)
          injection e with e1 _ e2
          subst e1
          exact hs)
        clear hgw
        go_wp2_with (first | (refine wpList_load_rowG (by kernel_rfl) 25 (.tmp 3) rfl g rfl 25 #[.slice ga G.length gc, .slice va M.length vc, .int .i64 fn] (0, 0) _ (unhide HBX) Tryz.underlying25 rfl (by kernel_rfl) ?_) | (refine wpList_store_row rfl 25 (.tmp 2) (.tmp 27) rfl (w.heap.size + 1) #[.slice ga G.length gc, .slice va M.length vc, .int .i64 fn] rfl rfl 25 #[.slice none 0 0, .slice none 0 0, .int .i64 0] (unhide HOX) (by kernel_rfl) rfl (by simp [Value.oneCell']) ?_))
        exact bodyPost_ret (results_ev1 rfl _ _ (w.heap.size + 1) (.slice ga G.length gc) (.slice va M.length vc) fn rfl (unhide HRX)) rfl ⟨ga, gc, G, va, vc, M, rfl, unhide HT2, (unhide HM).same, (unhide HM).cap, unhide HS2, unhide HSM, below_setRow' (unhide HBr) (by omega) _⟩
end Go.Proofs.YtkodmpcnndbngaaGreatDoor

namespace Go.Proofs.YtkodmpcnndbngaaGreatDoor
open Go.RowKit

set_option maxRecDepth 20000 in
set_option maxHeartbeats 4000000 in
theorem SameEnv_yes (ga ao : Option Addr) (gc cap : Nat) (T G : List Cl) (va so : Option Addr) (vc sc : Nat) (L M : List Sg) (fn : Int) (w : World) (hG : TabAt w ga G) (hT : TabAt w ao T) (hs : SameT T G) (hz : T.length * 48 ≤ 140737488351232) (hM : SgsAt w va M) (hL : SgsAt w so L) (hm : SameL L M) (hzl : L.length * 32 ≤ 140737488351232) :
    Calls Tryz.prog 9 #[.agg #[.slice ga G.length gc, .slice va M.length vc, .int .i64 fn], .agg #[.slice ao T.length cap, .slice so L.length sc, .int .i64 fn]] w fun e w' => e = .returned (.bool true) ∧ Below w.heap.size w w' := by
  have hll := hm.1
  rw [hll]
  have al1 := (Below.refl w.heap.size w).alloc (Nat.le_refl _) (.cells #[.slice ga G.length gc, .slice va L.length vc, .int .i64 fn] 25)
  have al := al1.alloc (by simp) (.cells #[.slice ao T.length cap, .slice so L.length sc, .int .i64 fn] 25)
  have HB := hide al
  have n1 := heap_alloc_new w (.cells #[.slice ga G.length gc, .slice va L.length vc, .int .i64 fn] 25)
  have n2 := heap_alloc_new (w.alloc (.cells #[.slice ga G.length gc, .slice va L.length vc, .int .i64 fn] 25)) (.cells #[.slice ao T.length cap, .slice so L.length sc, .int .i64 fn] 25)
  rw [World.size_alloc] at n2
  have HC1 : Hid (EBx ((w.alloc (.cells #[.slice ga G.length gc, .slice va L.length vc, .int .i64 fn] 25)).alloc (.cells #[.slice ao T.length cap, .slice so L.length sc, .int .i64 fn] 25)) w.heap.size (.slice ga G.length gc) (.slice va L.length vc) fn) := hide ((((Below.refl _ _).alloc (Nat.le_refl _) _).block w.heap.size (by simp)).trans n1)
  have HC2 : Hid (EBx ((w.alloc (.cells #[.slice ga G.length gc, .slice va L.length vc, .int .i64 fn] 25)).alloc (.cells #[.slice ao T.length cap, .slice so L.length sc, .int .i64 fn] 25)) (w.heap.size + 1) (.slice ao T.length cap) (.slice so L.length sc) fn) := hide n2
  have HS := hide (Same_yes ga ao gc cap T G _ (hG.below al) (hT.below al) hs hz)
  have HM := hide (hM.below al)
  have HL := hide (hL.below al)
  have HSm := hide hm
  have b1 : (fn != fn) = false := by simp
  have b2 : (((L.length : Nat) : Int) != ((L.length : Nat) : Int)) = false := by simp
  have hl2 : L.length < 9223372036854775000 := by omega
  have HLL := hide hll
  clear al1 al n1 n2 hG hT hs hz hM hL hm hzl hll
  go_enter Tryz.func9, Tryz.ntmps9
  go_upto_region 1 with fail
  generalize ((w.alloc (.cells #[.slice ga G.length gc, .slice va L.length vc, .int .i64 fn] 25)).alloc (.cells #[.slice ao T.length cap, .slice so L.length sc, .int .i64 fn] 25)) = W1 at HB HC1 HC2 HS HM HL ⊢
  have k0 := (unhide HC1).c0
  have k1 := (unhide HC1).c1
  have k2 := (unhide HC1).c2
  have m0 := (unhide HC2).c0
  have m1 := (unhide HC2).c1
  have m2 := (unhide HC2).c2
  go_wp2_with fail
  refine (unhide HS).mono ?_
  rintro e W2 ⟨rfl, q, rfl⟩
  go_wp2_with fail
  clear k0 k1 k2 m0 m1 m2
  go_loopw [31] (fun i wr => ∃ (k : Nat), k ≤ L.length ∧ i = .int .i64 (k : Int) ∧ Hid (Below W1.heap.size W1 wr)) (fun i _ => L.length - (intOf i).toNat)
  case atStart => exact ⟨0, by omega, rfl, hide (belowD (Below.refl _ _) _)⟩
  case round =>
    obtain ⟨k, hk, rfl, HR⟩ := hrel
    by_cases hlt : k < L.length
    · have i1 : ((k : Nat) : Int) < ((L.length : Nat) : Int) := by omega
      have i0 : (0 : Int) ≤ ((k : Nat) : Int) := by omega
      have hx := List.getElem?_eq_getElem hlt
      have hlm : k < M.length := by have := unhide HLL; omega
      have hy := List.getElem?_eq_getElem hlm
      obtain ⟨b, off, rfl, hxa⟩ := (unhide HL).below (unhide HR) k _ hx
      obtain ⟨b', off', rfl, hya⟩ := (unhide HM).below (unhide HR) k _ hy
      have hsm := (unhide HSm).2 k _ _ hx hy
      generalize L[k] = x at hxa hsm
      generalize M[k]'hlm = y at hya hsm
      have c0 := hxa.c0
      have c1 := hxa.c1
      have d0 := hya.c0
      have d1 := hya.c1
      rw [hsm.ps] at d0
      rw [hsm.rt] at d1
      have HC := hide (fun W (hW : Below wr.heap.size wr W) => SameSig_yes y.po x.po y.pc x.pc x.ps x.rt W (by rw [← hsm.ps]; exact hya.ok.prm.below hW) (hxa.ok.prm.below hW) hxa.ok.fit)
      have k1 := ((unhide HR).block _ (unhide HC1).lt).trans (unhide HC1)
      have m1 := ((unhide HR).block _ (unhide HC2).lt).trans (unhide HC2)
      have k1' := EBx.c1 k1
      have m1' := EBx.c1 m1
      have l1 := World.block_lt_of_cell? wr _ c0
      have l2 := World.block_lt_of_cell? wr _ d0
      have l3 := World.block_lt_of_cell? wr _ k1'
      have l4 := World.block_lt_of_cell? wr _ m1'
      have HBB := hide (fun W (hW : Below wr.heap.size wr.drew W) => (unhide HR).trans ((show Below wr.heap.size wr W from (show Below wr.heap.size wr wr.drew from belowD (Below.refl _ _) 1).trans hW).mono (unhide HR).size))
      clear hx hy hxa hya hsm k1 m1
      go_upto_region 6 with fail
      go_region_held3 (fun w' => w'.cell? ⟨w.heap.size, 1, none⟩ = some (.slice (some ⟨b', off', none⟩) L.length vc) ∧ w'.cell? ⟨w.heap.size + 1, 1, none⟩ = some (.slice (some ⟨b, off, none⟩) L.length sc) ∧ w'.cell? ⟨b, off + k * 2, none⟩ = some (.slice x.po x.ps.length x.pc) ∧ w'.cell? ⟨b, off + k * 2 + 1, none⟩ = some (.int .u8 x.rt) ∧ w'.cell? ⟨b', off' + k * 2, none⟩ = some (.slice y.po x.ps.length y.pc) ∧ w'.cell? ⟨b', off' + k * 2 + 1, none⟩ = some (.int .u8 x.rt)) (first | exact ⟨(hB2.cell (p := ⟨w.heap.size, 1, none⟩) l3).trans k1', (hB2.cell (p := ⟨w.heap.size + 1, 1, none⟩) l4).trans m1', (hB2.cell (p := ⟨b, off + k * 2, none⟩) l1).trans c0, (hB2.cell (p := ⟨b, off + k * 2 + 1, none⟩) l1).trans c1, (hB2.cell (p := ⟨b', off' + k * 2, none⟩) l2).trans d0, (hB2.cell (p := ⟨b', off' + k * 2 + 1, none⟩) l2).trans d1⟩ | go_keep) (first | (go_at_call 23; refine (unhide HC wr.drew (belowD (Below.refl _ _) 1)).mono ?_; rintro e w2 ⟨rfl, hB2⟩) | fail)
      have HR2 := hide (unhide HBB _ hB2)
      clear hB2
      go_wp2
      go_roundw
      case rel => exact ⟨k + 1, by omega, by go_num, HR2⟩
      case measure => simp [intOf]; omega
    · have i1 : ¬ ((k : Nat) : Int) < ((L.length : Nat) : Int) := by omega
      go_wp2
      go_ret
      exact ⟨rfl, (unhide HB).trans ((unhide HR).mono (unhide HB).size)⟩
end Go.Proofs.YtkodmpcnndbngaaGreatDoor
