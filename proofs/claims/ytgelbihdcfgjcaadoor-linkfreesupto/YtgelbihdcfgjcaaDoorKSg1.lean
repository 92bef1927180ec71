/-
  Signatures: how they lie in a world; provisoplain.Sig and SameSig; infer.areStored, checkSig and provisoref02.SigMay. Conditions: lengths fit.
-/
import Derived.Test.YtgelbihdcfgjcaaDoorJFR
import Derived.Test.YtgelbihdcfgjcaaDoorJCH
import Derived.Deep.Cut
namespace Go.Proofs.YtgelbihdcfgjcaaDoor
open Go.RowKit
set_option maxRecDepth 20000

structure Sg where
  po : Option Addr
  pc : Nat
  ps : List Nat
  rt : Nat
structure SgOk (W : World) (x : Sg) : Prop where
  prm : PAt W x.po x.ps
  nil : x.po = none → x.ps = []
  bts : ∀ t ∈ x.ps, t < 256
  fit : x.ps.length ≤ 140737488351232
  res : x.rt < 256
structure SgAt (W : World) (b o : Nat) (x : Sg) : Prop where
  c0 : W.cell? ⟨b, o, none⟩ = some (.slice x.po x.ps.length x.pc)
  c1 : W.cell? ⟨b, o + 1, none⟩ = some (.int .u8 (x.rt : Int))
  ok : SgOk W x
def SgsAt (W : World) (ao : Option Addr) (L : List Sg) : Prop := ∀ i x, L[i]? = some x → ∃ b off, ao = some ⟨b, off, none⟩ ∧ SgAt W b (off + i * 2) x
theorem SgOk.below {W w : World} {x : Sg} (h : SgOk W x) (hb : Below W.heap.size W w) : SgOk w x := ⟨h.prm.below hb, h.nil, h.bts, h.fit, h.res⟩
theorem SgAt.below {W w : World} {b o : Nat} {x : Sg} (h : SgAt W b o x) (hb : Below W.heap.size W w) : SgAt w b o x := by
  have hl : b < W.heap.size := World.block_lt_of_cell? W _ h.c0
  exact ⟨(hb.cell (p := ⟨b, o, none⟩) hl).trans h.c0, (hb.cell (p := ⟨b, o + 1, none⟩) hl).trans h.c1, h.ok.below hb⟩
theorem SgsAt.below {W w : World} {ao : Option Addr} {L : List Sg} (h : SgsAt W ao L) (hb : Below W.heap.size W w) : SgsAt w ao L := fun i x hx => by
  obtain ⟨b, off, e, h1⟩ := h i x hx
  exact ⟨b, off, e, h1.below hb⟩

/-! ### Boxes -/
def SBx (W : World) (g : Nat) (v : Value) (r : Nat) : Prop := W.heap[g]? = some (.cells #[v, .int .u8 (r : Int)] 37 (0, 0))
theorem SBx.lt {W : World} {g r : Nat} {v : Value} (h : SBx W g v r) : g < W.heap.size := (Array.getElem?_eq_some_iff.1 h).1
theorem SBx.c0 {W : World} {g r : Nat} {v : Value} (h : SBx W g v r) : W.cell? ⟨g, 0, none⟩ = some v := cell_of_row _ _ 0 _ _ _ h
theorem SBx.c1 {W : World} {g r : Nat} {v : Value} (h : SBx W g v r) : W.cell? ⟨g, 1, none⟩ = some (.int .u8 (r : Int)) := cell_of_row _ _ 1 _ _ _ h
theorem SBx.f {W : World} {g r : Nat} {v : Value} (h : SBx W g v r) (i : Nat) : W.frozen? ⟨g, i, none⟩ = false := frozen_of_row _ _ _ _ _ h
theorem SBx.set0 {W : World} {g r : Nat} {v : Value} (h : SBx W g v r) (v' : Value) : SBx (W.setCell ⟨g, 0, none⟩ v') g v' r := by
  unfold SBx at h ⊢
  simp only [World.setCell, Array.getElem?_modify, if_true, h]
  rfl
theorem results_cellG {fn : Func} {p : Tmp} {ty : TypeId} (h : fn.results = #[.cell p ty]) (tmps : Array Value) (P : Program) (w : World) :
    (results fn tmps).run P w = ((asAddr (tmps.getD p undef)).run P w).andThen fun a w₁ => (loadVar ty a).run P w₁ := by
  simp only [results, h]
  simp [Sem.run_bind, Result.andThen]
theorem results_sg1 {fn : Func} {p : Tmp} (h : fn.results = #[.cell p 37]) (tmps : Array Value) (W : World) (g : Nat) (v : Value) (r : Nat) (hp : tmps.getD p undef = .pointer (some ⟨g, 0, none⟩)) (hg : SBx W g v r) :
    (results fn tmps).run Tryd.prog W = .ok (.agg #[v, .int .u8 (r : Int)]) W := by
  rw [results_cellG h, hp, run_addr, Result.andThen_ok, run_loadVar_row W g 37 37 #[v, .int .u8 (r : Int)] (0, 0) _ hg Tryd.underlying37 rfl (by kernel_rfl)]
theorem start_okG {n : Nat} {ps : List Nat} (hp : ∀ t ∈ ps, t < 256) (lo : Int) : FrOk (startD n ps lo).1 := by
  unfold startD
  by_cases h : lo < 0 ∨ 16 < lo ∨ 8 < ps.length ∨ lo < (ps.length : Int)
  · rw [if_pos h]; exact frZ_ok
  · rw [if_neg h]
    by_cases h2 : ps.all (storedD n) = true
    · rw [if_pos h2]; exact startTo_ok (by omega) (by omega) hp _
    · rw [if_neg h2]; exact frZ_ok

/-! ### Rows of types -/
theorem rows_grownG {w w' : World} {base : Nat} {t : TypeId} {s : Nat} {v : Value} {n : Nat} {cs : List Value} {row : Option Nat} (h : w.ownsRow base t s v n cs) (hg : w.grownBy w' row) (hne : ∀ g, v.ownBlock = some g → row ≠ some g) : w'.ownsRow base t s v n cs := by
  refine ⟨h.1, ?_⟩
  rcases h.2 with h1 | ⟨g, cap, cur, hv, hbg, hh, r⟩
  · exact Or.inl h1
  · refine Or.inr ⟨g, cap, cur, hv, hbg, ?_, r⟩
    rw [hg.block g (Array.getElem?_eq_some_iff.1 hh).1 (fun e => hne g (by rw [hv]; rfl) e.symm)]
    exact hh
theorem grown_row {W : World} (k : Nat) (cs : Array Value) : W.grownBy (W.setRow k cs) (some k) := ⟨rfl, rfl, rfl, by simp, fun j _ hj => setRow_other W k j cs (fun e => hj (by rw [e]))⟩
set_option maxHeartbeats 400000 in
theorem cloneP_own (po : Option Addr) (c : Nat) (l : List Nat) (w : World) (hl : PAt w po l) (hn : po = none → l = []) (hb : l.length ≤ 140737488351232) :
    Calls Tryd.prog 15 #[.slice po l.length c] w fun e w' => ∃ v, e = .returned v ∧ OwnP w' w.heap.size v l ∧ Below w.heap.size w w' := by
  have q22 : ∀ (w : World) (a : Option Addr) (n c n' c' : Nat), (binOp .eql 34 (.slice a n c) (.slice none n' c')).run Tryd.prog w = .ok (.bool a.isNone) w := fun w a n c n' c' => Lib.run_eql_slice_nil w _ _ a n c n' c' Tryd.underlying34
  obtain ⟨i0, hi, hz0, hz1, hz2⟩ := info_parts infoTyV
  cases po with
  | none =>
    have hl0 := hn rfl
    subst hl0
    go_enter Tryd.func15, Tryd.ntmps15
    go_wp2
    go_ret
    exact ⟨_, rfl, World.ownsRow_nil _ _ _ _, Below.refl _ _⟩
  | some x =>
    go_enter Tryd.func15, Tryd.ntmps15
    go_wp2_with (at_builtin; refine wpList_append_own _ rfl _ _ 34 rfl w.heap.size 35 i0 (.int .u8 0) 1 1 Tryd.underlying34 hi hz0 hz1 hz2 rfl (by decide) _ 0 [] rfl (World.ownsRow_made w #[] 0 (Nat.le_refl _) (by decide) rfl) x l.length c (slV l) rfl ?c0 ?c1 ?c2 ?c3 ?c4 ?c5 ?_)
    case c0 => simp [slV_length]
    case c1 =>
      intro j u hj
      have hjl : j < l.length := by
        have := (List.getElem?_eq_some_iff.1 hj).1
        rw [slV_length] at this; exact this
      have hx := List.getElem?_eq_getElem hjl
      obtain ⟨b, off, e, hc⟩ := hl j _ hx
      injection e with e
      subst e
      rw [slV_get hx] at hj
      injection hj with hj
      subst hj
      have hlt := World.block_lt_of_cell? w _ hc
      rw [Addr.add_lit]
      exact (((Below.refl w.heap.size w).alloc (Nat.le_refl _) _).cell (p := ⟨b, off + j, none⟩) hlt).trans hc
    case c2 => exact slV_one l
    case c3 => unfold maxLen; omega
    case c4 => omega
    case c5 => simp
    · intro v' w1 hown hgrow hnil
      go_wp2
      go_ret
      exact ⟨_, rfl, hown, ((Below.refl w.heap.size w).alloc (Nat.le_refl _) _).trans ((Below.refl _ _).grown hgrow (by simp) (fun k e => by simp [Value.ownBlock] at e; omega))⟩

set_option maxRecDepth 20000 in
set_option maxHeartbeats 1000000 in
theorem Sig_any (po : Option Addr) (c : Nat) (ps : List Nat) (rt : Nat) (w : World) (hl : PAt w po ps) (hn : po = none → ps = []) (hb : ps.length ≤ 140737488351232) :
    Calls Tryd.prog 11 #[.agg #[.slice po ps.length c, .int .u8 (rt : Int)]] w fun e w' => ∃ va vc, e = .returned (.agg #[.slice va ps.length vc, .int .u8 (rt : Int)]) ∧ OwnP w' w.heap.size (.slice va ps.length vc) ps ∧ Below w.heap.size w w' := by
  have al1 := (Below.refl w.heap.size w).alloc (Nat.le_refl _) (.cells #[.slice po ps.length c, .int .u8 (rt : Int)] 37)
  have al := al1.alloc (by simp) (.cells #[.slice none 0 0, .int .u8 0] 37)
  have HB := hide al
  have n1 := heap_alloc_new w (.cells #[.slice po ps.length c, .int .u8 (rt : Int)] 37)
  have n2 := heap_alloc_new (w.alloc (.cells #[.slice po ps.length c, .int .u8 (rt : Int)] 37)) (.cells #[.slice none 0 0, .int .u8 0] 37)
  rw [World.size_alloc] at n2
  have HC1 : Hid (SBx ((w.alloc (.cells #[.slice po ps.length c, .int .u8 (rt : Int)] 37)).alloc (.cells #[.slice none 0 0, .int .u8 0] 37)) w.heap.size (.slice po ps.length c) rt) := hide ((((Below.refl _ _).alloc (Nat.le_refl _) _).block w.heap.size (by simp)).trans n1)
  have HC2 : Hid (SBx ((w.alloc (.cells #[.slice po ps.length c, .int .u8 (rt : Int)] 37)).alloc (.cells #[.slice none 0 0, .int .u8 0] 37)) (w.heap.size + 1) (.slice none 0 0) 0) := hide n2
  have HCl := hide (cloneP_own po c ps _ (hl.below al) hn hb)
  have hsz : ((w.alloc (.cells #[.slice po ps.length c, .int .u8 (rt : Int)] 37)).alloc (.cells #[.slice none 0 0, .int .u8 0] 37)).heap.size = w.heap.size + 2 := by simp
  clear al1 al n1 n2 hl
  go_enter Tryd.func11, Tryd.ntmps11
  go_upto_region 1 with fail
  generalize ((w.alloc (.cells #[.slice po ps.length c, .int .u8 (rt : Int)] 37)).alloc (.cells #[.slice none 0 0, .int .u8 0] 37)) = W1 at HB HC1 HC2 HCl hsz ⊢
  have k1 := (unhide HC1).c0
  go_wp2_with fail
  refine (unhide HCl).mono ?_
  rintro e W2 ⟨v, rfl, hO, hB2⟩
  obtain ⟨va, vc, rfl, _, _⟩ := hO.at
  have HD1 : Hid (SBx W2 w.heap.size (.slice po ps.length c) rt) := hide ((hB2.block _ (by omega)).trans (unhide HC1))
  have HD2 : Hid (SBx W2 (w.heap.size + 1) (.slice none 0 0) 0) := hide ((hB2.block _ (by omega)).trans (unhide HC2))
  have HB2 := hide ((unhide HB).trans (hB2.mono (unhide HB).size))
  have HO := hide hO
  have k2 := (unhide HD1).c0
  have k3 := (unhide HD1).f 0
  have HD3 := hide ((unhide HD1).set0 (.slice va ps.length vc))
  clear hO hB2 k1 HC1 HC2
  go_upto_region 2 with fail
  have HB3 : Hid (Below w.heap.size w (W2.setCell ⟨w.heap.size, 0, none⟩ (.slice va ps.length vc))) := hide ((unhide HB2).setCell (p := ⟨w.heap.size, 0, none⟩) (Nat.le_refl _) (.slice va ps.length vc))
  have HD4 : Hid (SBx (W2.setCell ⟨w.heap.size, 0, none⟩ (.slice va ps.length vc)) (w.heap.size + 1) (.slice none 0 0) 0) := hide ((Below.heap_setCell W2 ⟨w.heap.size, 0, none⟩ (.slice va ps.length vc) (w.heap.size + 1) (by simp)).trans (unhide HD2))
  have HO3 : Hid (OwnP (W2.setCell ⟨w.heap.size, 0, none⟩ (.slice va ps.length vc)) W1.heap.size (.slice va ps.length vc) ps) := hide (rows_grownG (unhide HO) (grownBy_set W2 w.heap.size 0 (.slice va ps.length vc)) (fun g e e2 => by have := (World.ownsRow.lt (unhide HO) g e).1; injection e2 with e2; omega))
  generalize W2.setCell ⟨w.heap.size, 0, none⟩ (.slice va ps.length vc) = W3 at HB3 HD3 HD4 HO3 ⊢
  have HD5 : Hid (SBx (W3.setRow (w.heap.size + 1) #[.slice va ps.length vc, .int .u8 (rt : Int)]) (w.heap.size + 1) (.slice va ps.length vc) rt) := hide (setRow_heap _ _ _ _ _ _ (unhide HD4))
  have HO5 : Hid (OwnP (W3.setRow (w.heap.size + 1) #[.slice va ps.length vc, .int .u8 (rt : Int)]) w.heap.size (.slice va ps.length vc) ps) := hide (rowMono (rows_grownG (unhide HO3) (grown_row (w.heap.size + 1) _) (fun g e e2 => by have := (World.ownsRow.lt (unhide HO3) g e).1; injection e2 with e2; omega)) (by omega))
  clear k2 k3
  go_wp2_with (first | (refine wpList_load_rowG (by kernel_rfl) 37 (.tmp 1) rfl w.heap.size rfl 37 #[.slice va ps.length vc, .int .u8 (rt : Int)] (0, 0) _ (unhide HD3) Tryd.underlying37 rfl (by kernel_rfl) ?_) | (refine wpList_store_row rfl 37 (.tmp 2) (.tmp 7) rfl (w.heap.size + 1) #[.slice va ps.length vc, .int .u8 (rt : Int)] rfl rfl 37 #[.slice none 0 0, .int .u8 0] (unhide HD4) (by kernel_rfl) rfl (by simp [Value.oneCell']) ?_))
  refine bodyPost_ret (results_sg1 rfl _ _ (w.heap.size + 1) (.slice va ps.length vc) rt rfl (unhide HD5)) rfl ⟨_, _, rfl, unhide HO5, below_setRow' (unhide HB3) (by omega) _⟩

set_option maxRecDepth 20000 in
set_option maxHeartbeats 1000000 in
theorem SameSig_yes (po go : Option Addr) (pc gc : Nat) (l : List Nat) (rt : Nat) (w : World) (h : PAt w po l) (hg : PAt w go l) (hb : l.length ≤ 140737488351232) :
    Calls Tryd.prog 20 #[.agg #[.slice po l.length pc, .int .u8 (rt : Int)], .agg #[.slice go l.length gc, .int .u8 (rt : Int)]] w fun e w' => e = .returned (.bool true) ∧ Below w.heap.size w w' := by
  have al1 := (Below.refl w.heap.size w).alloc (Nat.le_refl _) (.cells #[.slice po l.length pc, .int .u8 (rt : Int)] 37)
  have al := al1.alloc (by simp) (.cells #[.slice go l.length gc, .int .u8 (rt : Int)] 37)
  have HB := hide al
  have n1 := heap_alloc_new w (.cells #[.slice po l.length pc, .int .u8 (rt : Int)] 37)
  have n2 := heap_alloc_new (w.alloc (.cells #[.slice po l.length pc, .int .u8 (rt : Int)] 37)) (.cells #[.slice go l.length gc, .int .u8 (rt : Int)] 37)
  rw [World.size_alloc] at n2
  have HC1 : Hid (SBx ((w.alloc (.cells #[.slice po l.length pc, .int .u8 (rt : Int)] 37)).alloc (.cells #[.slice go l.length gc, .int .u8 (rt : Int)] 37)) w.heap.size (.slice po l.length pc) rt) := hide ((((Below.refl _ _).alloc (Nat.le_refl _) _).block w.heap.size (by simp)).trans n1)
  have HC2 : Hid (SBx ((w.alloc (.cells #[.slice po l.length pc, .int .u8 (rt : Int)] 37)).alloc (.cells #[.slice go l.length gc, .int .u8 (rt : Int)] 37)) (w.heap.size + 1) (.slice go l.length gc) rt) := hide n2
  have HE := hide (equalP_yes po go pc gc l _ (h.below al) (hg.below al) hb)
  have b1 : (((rt : Nat) : Int) == ((rt : Nat) : Int)) = true := by simp
  clear al1 al n1 n2 h hg
  go_enter Tryd.func20, Tryd.ntmps20
  go_upto_region 1 with fail
  generalize ((w.alloc (.cells #[.slice po l.length pc, .int .u8 (rt : Int)] 37)).alloc (.cells #[.slice go l.length gc, .int .u8 (rt : Int)] 37)) = W1 at HB HC1 HC2 HE ⊢
  have k1 := (unhide HC1).c0
  have k2 := (unhide HC1).c1
  have k3 := (unhide HC2).c0
  have k4 := (unhide HC2).c1
  go_wp2_with fail
  refine (unhide HE).mono ?_
  rintro e W2 ⟨rfl, q, rfl⟩
  go_wp2
  go_ret
  exact ⟨rfl, belowD (unhide HB) _⟩
end Go.Proofs.YtgelbihdcfgjcaaDoor

namespace Go.Proofs.YtgelbihdcfgjcaaDoor
open Go.RowKit

/-- Is a signature of stored types (its result may be none)? -/
def sgD (n : Nat) (ps : List Nat) (rt : Nat) : Bool := ps.all (storedD n) && (rt == 0 || storedD n rt)
/-- What a signature's check says. -/
def sgE (n : Nat) (ps : List Nat) (rt : Nat) : Int := if 8 < ps.length then 4 else if sgD n ps rt = true then 0 else 22
theorem start16 {n : Nat} {ps : List Nat} (h : ps.length ≤ 8) : ((startD n ps 16).2 == 0) = ps.all (storedD n) := by
  unfold startD
  rw [if_neg (by omega)]
  cases ps.all (storedD n) <;> rfl

theorem ret_boolG {a b : Bool} (h : a = b) : Ending.returned (.bool a) = .returned (.bool b) := by rw [h]
end Go.Proofs.YtgelbihdcfgjcaaDoor
