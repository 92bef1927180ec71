/-
  Texts of contracts and plain lemmas, one behind another; each says at its head what it holds.
-/
import Derived.Test.YtgelbihdcfgjcaaDoorKSg1
import Derived.Deep.RegionHeld3
import Derived.Deep.AppendLies
import Derived.Deep.DeepCutAuto
import Derived.Deep.RegionLaw
import Derived.Test.YtgelbihdcfgjcaaDoorBx1
import Derived.Deep.MidRow
/-
  provisoplain.Env and SameEnv: an environment's copy in memory of its own, the same but for where it lies. Conditions: lengths fit.
-/
namespace Go.Proofs.YtgelbihdcfgjcaaDoor
open Go.RowKit
set_option maxRecDepth 20000

structure SameS (x y : Sg) : Prop where
  ps : y.ps = x.ps
  rt : y.rt = x.rt
def SameL (L M : List Sg) : Prop := M.length = L.length ∧ ∀ (i : Nat) x y, L[i]? = some x → M[i]? = some y → SameS x y
def scells (y : Sg) : List Value := [.slice y.po y.ps.length y.pc, .int .u8 (y.rt : Int)]
def svals (G : List Sg) : List Value := G.flatMap scells
theorem svals_length (l : List Sg) : (svals l).length = l.length * 2 := by
  unfold svals
  induction l with
  | nil => rfl
  | cons f l ih => rw [List.flatMap_cons, List.length_append, ih]; simp [scells]; omega
theorem svals_snoc (l : List Sg) (y : Sg) : svals (l ++ [y]) = svals l ++ scells y := by unfold svals; simp
theorem svals_get : ∀ {l : List Sg} {i : Nat} {f : Sg}, l[i]? = some f → (svals l)[i * 2]? = some (.slice f.po f.ps.length f.pc) ∧ (svals l)[i * 2 + 1]? = some (.int .u8 (f.rt : Int))
  | [], i, f, h => by simp at h
  | g :: l, 0, f, h => by
    simp at h
    subst h
    unfold svals
    rw [List.flatMap_cons]
    exact ⟨rfl, rfl⟩
  | g :: l, i + 1, f, h => by
    have h' : l[i]? = some f := by simpa using h
    obtain ⟨h1, h2⟩ := svals_get h'
    unfold svals at h1 h2 ⊢
    rw [List.flatMap_cons]
    refine ⟨?_, ?_⟩
    · rw [List.getElem?_append_right (by simp [scells]; omega)]
      rw [← h1]; congr 1; simp [scells]; omega
    · rw [List.getElem?_append_right (by simp [scells]; omega)]
      rw [← h2]; congr 1; simp [scells]; omega
theorem infoSg : (Tryd.prog.info? 37).map (fun i => (i.zero, i.size, i.bytes)) = some (some (.agg #[.slice none 0 0, .int .u8 0]), 2, 32) := by kernel_rfl
def OwnS (w : World) (base : Nat) (v : Value) (G : List Sg) : Prop := w.ownsRow base 37 2 v G.length (svals G)
structure CopyS (w : World) (base : Nat) (x y : Sg) : Prop where
  same : SameS x y
  own : OwnP w base (.slice y.po y.ps.length y.pc) y.ps
theorem CopyS.grown {w w' : World} {base : Nat} {x y : Sg} {v : Value} {n : Nat} {cs : List Value} (h : CopyS w base x y) (hv : w.ownsRow base 37 2 v n cs) (hg : w.grownBy w' v.ownBlock) : CopyS w' base x y := by
  refine ⟨h.same, rows_grownG h.own hg ?_⟩
  intro g hb e
  obtain ⟨c1, g1⟩ := rowTy h.own g hb
  obtain ⟨c2, g2⟩ := rowTy hv g e
  rw [g1] at g2
  simp at g2
theorem CopyS.below {w w' : World} {base : Nat} {x y : Sg} (h : CopyS w base x y) (hb : Below w.heap.size w w') : CopyS w' base x y := ⟨h.same, rowBelow h.own hb⟩
theorem CopyS.box {w w' : World} {base k : Nat} {x y : Sg} (h : CopyS w base x y) (hg : w.grownBy w' (some k)) (hk : k < base) : CopyS w' base x y :=
  ⟨h.same, rows_grownG h.own hg (fun g e e2 => by have := (World.ownsRow.lt h.own g e).1; injection e2 with e2; omega)⟩
theorem copy_sigs {w w0 : World} {base : Nat} {ao : Option Addr} {L M : List Sg} {v : Value} (hL : SgsAt w0 ao L) (hO : OwnS w base v M) (hl : M.length = L.length) (hc : ∀ (i : Nat) x y, L[i]? = some x → M[i]? = some y → CopyS w base x y) : ∃ sa sc, v = .slice sa M.length sc ∧ SgsAt w sa M ∧ SameL L M := by
  have hs : SameL L M := ⟨hl, fun i x y hx hy => (hc i x y hx hy).same⟩
  rcases hO.2 with ⟨h1, h2⟩ | ⟨g, cap, cur, rfl, hb, hh, hn, hm, hsz, ht⟩
  · have := List.eq_nil_of_length_eq_zero h2
    subst this
    exact ⟨none, 0, h1, fun i x hx => by simp at hx, hs⟩
  · refine ⟨_, cap, rfl, fun i y hy => ⟨g, 0, rfl, ?_⟩, hs⟩
    have hi := (List.getElem?_eq_some_iff.1 hy).1
    have hx := List.getElem?_eq_getElem (show i < L.length by omega)
    have hcy := hc i _ y hx hy
    obtain ⟨_, _, _, hxa⟩ := hL i _ hx
    obtain ⟨h1, h2⟩ := svals_get hy
    obtain ⟨fa, fc, ef, hfa, hfb⟩ := hcy.own.at
    injection ef with ef1 _ ef2
    rw [← ef1] at hfa
    refine ⟨?_, ?_, hfa, ?_, by rw [hcy.same.ps]; exact hxa.ok.bts, by rw [hcy.same.ps]; exact hxa.ok.fit, by rw [hcy.same.rt]; exact hxa.ok.res⟩
    · rw [Nat.zero_add, World.ownsRow.cellAt hO (i * 2) (by omega)]; exact h1
    · rw [Nat.zero_add, World.ownsRow.cellAt hO (i * 2 + 1) (by omega)]; exact h2
    · intro e
      cases hps : y.ps with
      | nil => rfl
      | cons t l =>
        obtain ⟨b, off, e', _⟩ := hfa 0 t (by rw [hps]; rfl)
        rw [e] at e'
        cases e'
/-- A table stays where a block is written in which there is no text. -/
theorem TabAt.grownK {W W' : World} {ao : Option Addr} {T : List Cl} {k : Nat} (h : TabAt W ao T) (hg : W.grownBy W' (some k)) (hne : ∀ o s, W.cell? ⟨k, o, none⟩ ≠ some (.string s)) : TabAt W' ao T := fun i x hx => by
  obtain ⟨b, off, e, hc⟩ := h i x hx
  have hb : b ≠ k := fun e => hne _ _ (by rw [← e]; exact hc.c0)
  have hl : b < W.heap.size := World.block_lt_of_cell? W _ hc.c0
  have kk : ∀ j, W'.cell? ⟨b, j, none⟩ = W.cell? ⟨b, j, none⟩ := fun j => hg.cell_far ⟨b, j, none⟩ hl (fun e => hb (by injection e))
  refine ⟨b, off, e, ⟨(kk _).trans hc.c0, (kk _).trans hc.c1, (kk _).trans hc.c2, ?_, hc.nil, hc.cap, hc.fit, hc.name, hc.par⟩⟩
  intro i f hf'
  obtain ⟨b', off', e', hfl⟩ := hc.flds i f hf'
  have hb' : b' ≠ k := fun e => hne _ _ (by rw [← e]; exact hfl.c0)
  have hl' : b' < W.heap.size := World.block_lt_of_cell? W _ hfl.c0
  have k' : ∀ j, W'.cell? ⟨b', j, none⟩ = W.cell? ⟨b', j, none⟩ := fun j => hg.cell_far ⟨b', j, none⟩ hl' (fun e => hb' (by injection e))
  exact ⟨b', off', e', ⟨(k' _).trans hfl.c0, (k' _).trans hfl.c1, hfl.name, hfl.ty⟩⟩
theorem grownBy_more {W0 W W' : World} {k : Nat} {row : Option Nat} (h : W0.grownBy W (some k)) (hg : W.grownBy W' row) (hr : ∀ q, row = some q → W0.heap.size ≤ q ∨ q = k) : W0.grownBy W' (some k) :=
  ⟨hg.os.trans h.os, hg.tape.trans h.tape, hg.output.trans h.output, Nat.le_trans h.size hg.size, fun j hj hn => (hg.block j (Nat.lt_of_lt_of_le hj h.size) (fun e => by
    rcases hr j e.symm with h1 | h1
    · omega
    · exact hn (by rw [h1]))).trans (h.block j hj hn)⟩
theorem grownBy_sets (W : World) (b : Nat) (x y z : Value) : W.grownBy (((W.setCell ⟨b, 0, none⟩ x).setCell ⟨b, 1, none⟩ y).setCell ⟨b, 2, none⟩ z) (some b) :=
  grownBy_more (grownBy_more (grownBy_set W b 0 x) (grownBy_set _ b 1 y) (fun q e => .inr (by injection e with e; omega))) (grownBy_set _ b 2 z) (fun q e => .inr (by injection e with e; omega))
theorem OwnS.slice {w : World} {base : Nat} {v : Value} {G : List Sg} (h : OwnS w base v G) : ∃ va vc, v = .slice va G.length vc := by
  rcases h.2 with ⟨h1, h2⟩ | ⟨g, cap, cur, rfl, _⟩
  · exact ⟨none, 0, by rw [h1, h2]⟩
  · exact ⟨_, _, rfl⟩
theorem scells_one (y : Sg) : ∀ u ∈ scells y, u.oneCell' = true := by
  intro u hu
  simp only [scells, List.mem_cons, List.mem_nil_iff, or_false] at hu
  rcases hu with rfl | rfl <;> rfl
theorem grown_ofBelow {w w' : World} (h : Below w.heap.size w w') (row : Option Nat) : w.grownBy w' row := ⟨h.os, h.tape, h.output, h.size, fun k hk _ => h.block k hk⟩
end Go.Proofs.YtgelbihdcfgjcaaDoor

namespace Go.Proofs.YtgelbihdcfgjcaaDoor
open Go.RowKit

end Go.Proofs.YtgelbihdcfgjcaaDoor

namespace Go.Proofs.YtgelbihdcfgjcaaDoor
open Go.RowKit

end Go.Proofs.YtgelbihdcfgjcaaDoor

/-
  What a call answers out of a box. No Go in it.
-/
namespace Go.Proofs.YtgelbihdcfgjcaaDoor
open Go.RowKit
set_option maxRecDepth 20000

theorem results_bx {fn : Func} {p : Tmp} {t : TypeId} (h : fn.results = #[.cell p t]) (tmps : Array Value) (W : World) (g : Nat) (cs : Array Value) (hp : tmps.getD p undef = .pointer (some ⟨g, 0, none⟩)) (hl : (loadVar t ⟨g, 0, none⟩).run Tryd.prog W = .ok (.agg cs) W) :
    (results fn tmps).run Tryd.prog W = .ok (.agg cs) W := by
  rw [results_cellG h, hp, run_addr, Result.andThen_ok, hl]

end Go.Proofs.YtgelbihdcfgjcaaDoor

/-
  Functions and certificates of a module: how they lie in a world; provisoplain.Func: a function's copy in memory of its own. Conditions: lengths fit.
-/
namespace Go.Proofs.YtgelbihdcfgjcaaDoor
open Go.RowKit
set_option maxRecDepth 20000

structure Fn where
  nm : ByteArray
  sg : Sg
  lo : Int
  ca : Option Addr
  cc : Nat
  cd : List UInt8
structure FnOk (W : World) (f : Fn) : Prop where
  sg : SgOk W f.sg
  code : BAt W f.ca f.cd
  nil : f.ca = none → f.cd = []
  fit : f.cd.length ≤ 140737488351232
  name : f.nm.size ≤ 140737488351232
  loc : -9223372036854775808 ≤ f.lo ∧ f.lo ≤ 9223372036854775807
structure FnAt (W : World) (b o : Nat) (f : Fn) : Prop where
  c0 : W.cell? ⟨b, o, none⟩ = some (.string f.nm)
  c1 : W.cell? ⟨b, o + 1, none⟩ = some (.slice f.sg.po f.sg.ps.length f.sg.pc)
  c2 : W.cell? ⟨b, o + 2, none⟩ = some (.int .u8 (f.sg.rt : Int))
  c3 : W.cell? ⟨b, o + 3, none⟩ = some (.int .i64 f.lo)
  c4 : W.cell? ⟨b, o + 4, none⟩ = some (.slice f.ca f.cd.length f.cc)
  ok : FnOk W f
def FnsAt (W : World) (ao : Option Addr) (L : List Fn) : Prop := ∀ i x, L[i]? = some x → ∃ b off, ao = some ⟨b, off, none⟩ ∧ FnAt W b (off + i * 5) x
theorem FnOk.below {W w : World} {x : Fn} (h : FnOk W x) (hb : Below W.heap.size W w) : FnOk w x := ⟨h.sg.below hb, h.code.below' hb, h.nil, h.fit, h.name, h.loc⟩
theorem FnAt.below {W w : World} {b o : Nat} {x : Fn} (h : FnAt W b o x) (hb : Below W.heap.size W w) : FnAt w b o x := by
  have hl : b < W.heap.size := World.block_lt_of_cell? W _ h.c0
  exact ⟨(hb.cell (p := ⟨b, o, none⟩) hl).trans h.c0, (hb.cell (p := ⟨b, o + 1, none⟩) hl).trans h.c1, (hb.cell (p := ⟨b, o + 2, none⟩) hl).trans h.c2, (hb.cell (p := ⟨b, o + 3, none⟩) hl).trans h.c3, (hb.cell (p := ⟨b, o + 4, none⟩) hl).trans h.c4, h.ok.below hb⟩
theorem FnsAt.below {W w : World} {ao : Option Addr} {L : List Fn} (h : FnsAt W ao L) (hb : Below W.heap.size W w) : FnsAt w ao L := fun i x hx => by
  obtain ⟨b, off, e, h1⟩ := h i x hx
  exact ⟨b, off, e, h1.below hb⟩
/-- A slice of bytes in a row of such. -/
structure Bs where
  ca : Option Addr
  cc : Nat
  cd : List UInt8
structure BsAt (W : World) (b o : Nat) (x : Bs) : Prop where
  c0 : W.cell? ⟨b, o, none⟩ = some (.slice x.ca x.cd.length x.cc)
  code : BAt W x.ca x.cd
  nil : x.ca = none → x.cd = []
  fit : x.cd.length ≤ 140737488351232
def BssAt (W : World) (ao : Option Addr) (L : List Bs) : Prop := ∀ i x, L[i]? = some x → ∃ b off, ao = some ⟨b, off, none⟩ ∧ BsAt W b (off + i) x
theorem BsAt.below {W w : World} {b o : Nat} {x : Bs} (h : BsAt W b o x) (hb : Below W.heap.size W w) : BsAt w b o x := by
  have hl : b < W.heap.size := World.block_lt_of_cell? W _ h.c0
  exact ⟨(hb.cell (p := ⟨b, o, none⟩) hl).trans h.c0, h.code.below' hb, h.nil, h.fit⟩
theorem BssAt.below {W w : World} {ao : Option Addr} {L : List Bs} (h : BssAt W ao L) (hb : Below W.heap.size W w) : BssAt w ao L := fun i x hx => by
  obtain ⟨b, off, e, h1⟩ := h i x hx
  exact ⟨b, off, e, h1.below hb⟩

/-! ### A function's copy -/
structure SameFn (x y : Fn) : Prop where
  nm : y.nm = x.nm
  sg : SameS x.sg y.sg
  lo : y.lo = x.lo
  cd : y.cd = x.cd
def SameFns (L M : List Fn) : Prop := M.length = L.length ∧ ∀ (i : Nat) x y, L[i]? = some x → M[i]? = some y → SameFn x y
def SameBss (L M : List Bs) : Prop := M.length = L.length ∧ ∀ (i : Nat) (x y : Bs), L[i]? = some x → M[i]? = some y → y.cd = x.cd
/-- The cells of a function. -/
def fnA (x : Fn) : Array Value := #[.string x.nm, .slice x.sg.po x.sg.ps.length x.sg.pc, .int .u8 (x.sg.rt : Int), .int .i64 x.lo, .slice x.ca x.cd.length x.cc]
structure CopyFn (w : World) (base : Nat) (x y : Fn) : Prop where
  same : SameFn x y
  ownP : OwnP w base (.slice y.sg.po y.sg.ps.length y.sg.pc) y.sg.ps
  ownB : OwnB w base (.slice y.ca y.cd.length y.cc) y.cd

set_option maxRecDepth 20000 in
set_option maxHeartbeats 4000000 in
theorem Func_any (x : Fn) (w : World) (hx : FnOk w x) :
    Calls Tryd.prog 18 #[.agg #[.string x.nm, .slice x.sg.po x.sg.ps.length x.sg.pc, .int .u8 (x.sg.rt : Int), .int .i64 x.lo, .slice x.ca x.cd.length x.cc]] w fun e w' => ∃ y : Fn, e = .returned (.agg #[.string y.nm, .slice y.sg.po y.sg.ps.length y.sg.pc, .int .u8 (y.sg.rt : Int), .int .i64 y.lo, .slice y.ca y.cd.length y.cc]) ∧ CopyFn w' w.heap.size x y ∧ Below w.heap.size w w' := by
  obtain ⟨nm, ⟨po, pc, ps, rt⟩, lo, ca, cc, cd⟩ := x
  have al1 := (Below.refl w.heap.size w).alloc (Nat.le_refl _) (.cells #[.string nm, .slice po ps.length pc, .int .u8 (rt : Int), .int .i64 lo, .slice ca cd.length cc] 40)
  have al := al1.alloc (by simp) (.cells #[.string ⟨#[]⟩, .slice none 0 0, .int .u8 0, .int .i64 0, .slice none 0 0] 40)
  have HB := hide al
  have n1 := heap_alloc_new w (.cells #[.string nm, .slice po ps.length pc, .int .u8 (rt : Int), .int .i64 lo, .slice ca cd.length cc] 40)
  have n2 := heap_alloc_new (w.alloc (.cells #[.string nm, .slice po ps.length pc, .int .u8 (rt : Int), .int .i64 lo, .slice ca cd.length cc] 40)) (.cells #[.string ⟨#[]⟩, .slice none 0 0, .int .u8 0, .int .i64 0, .slice none 0 0] 40)
  rw [World.size_alloc] at n2
  have HC1 : Hid (Bx ((w.alloc (.cells #[.string nm, .slice po ps.length pc, .int .u8 (rt : Int), .int .i64 lo, .slice ca cd.length cc] 40)).alloc (.cells #[.string ⟨#[]⟩, .slice none 0 0, .int .u8 0, .int .i64 0, .slice none 0 0] 40)) w.heap.size 40 #[.string nm, .slice po ps.length pc, .int .u8 (rt : Int), .int .i64 lo, .slice ca cd.length cc]) := hide ((((Below.refl _ _).alloc (Nat.le_refl _) _).block w.heap.size (by simp)).trans n1)
  have HC2 : Hid (Bx ((w.alloc (.cells #[.string nm, .slice po ps.length pc, .int .u8 (rt : Int), .int .i64 lo, .slice ca cd.length cc] 40)).alloc (.cells #[.string ⟨#[]⟩, .slice none 0 0, .int .u8 0, .int .i64 0, .slice none 0 0] 40)) (w.heap.size + 1) 40 #[.string ⟨#[]⟩, .slice none 0 0, .int .u8 0, .int .i64 0, .slice none 0 0]) := hide n2
  have HSg := hide (Sig_any po pc ps rt _ (hx.sg.prm.below al) hx.sg.nil hx.sg.fit)
  have HCd := hide (hx.code.below' al)
  have HX := hide hx
  have hsz : ((w.alloc (.cells #[.string nm, .slice po ps.length pc, .int .u8 (rt : Int), .int .i64 lo, .slice ca cd.length cc] 40)).alloc (.cells #[.string ⟨#[]⟩, .slice none 0 0, .int .u8 0, .int .i64 0, .slice none 0 0] 40)).heap.size = w.heap.size + 2 := by simp
  clear al1 al n1 n2 hx
  go_enter Tryd.func18, Tryd.ntmps18
  go_upto_region 1 with fail
  generalize ((w.alloc (.cells #[.string nm, .slice po ps.length pc, .int .u8 (rt : Int), .int .i64 lo, .slice ca cd.length cc] 40)).alloc (.cells #[.string ⟨#[]⟩, .slice none 0 0, .int .u8 0, .int .i64 0, .slice none 0 0] 40)) = W1 at HB HC1 HC2 HSg HCd hsz ⊢
  have k1 := (unhide HC1).c 1 rfl
  have k2 := (unhide HC1).c 2 rfl
  go_wp2_with fail
  refine (unhide HSg).mono ?_
  rintro e W2 ⟨va, vc, rfl, hO, hB2⟩
  have HD1 := hide ((unhide HC1).below hB2)
  have HD2 := hide ((unhide HC2).below hB2)
  have HB2 := hide ((unhide HB).trans (hB2.mono (unhide HB).size))
  have HCd2 := hide ((unhide HCd).below' hB2)
  have HO := hide hO
  have hs2 : w.heap.size + 2 ≤ W2.heap.size := by have := hB2.size; omega
  clear k1 k2 hO hB2 HC1 HC2 HCd HSg
  have k1 := (unhide HD1).c 1 rfl
  have k2 := (unhide HD1).c 2 rfl
  have k3 := (unhide HD1).f 1
  have k4 := (unhide HD1).f 2
  go_upto_region 2 with fail
  have HE1 : Hid (Bx ((W2.setCell ⟨w.heap.size, 1, none⟩ (.slice va ps.length vc)).setCell ⟨w.heap.size, 2, none⟩ (.int .u8 (rt : Int))) w.heap.size 40 #[.string nm, .slice va ps.length vc, .int .u8 (rt : Int), .int .i64 lo, .slice ca cd.length cc]) := hide (((unhide HD1).set 1 (.slice va ps.length vc) (cs' := #[.string nm, .slice va ps.length vc, .int .u8 (rt : Int), .int .i64 lo, .slice ca cd.length cc]) rfl).set 2 (.int .u8 (rt : Int)) rfl)
  have HE2 := hide (((unhide HD2).other ⟨w.heap.size, 1, none⟩ (.slice va ps.length vc) (by simp)).other ⟨w.heap.size, 2, none⟩ (.int .u8 (rt : Int)) (by simp))
  have HB3 : Hid (Below w.heap.size w ((W2.setCell ⟨w.heap.size, 1, none⟩ (.slice va ps.length vc)).setCell ⟨w.heap.size, 2, none⟩ (.int .u8 (rt : Int)))) := hide (((unhide HB2).setCell (p := ⟨w.heap.size, 1, none⟩) (Nat.le_refl _) _).setCell (p := ⟨w.heap.size, 2, none⟩) (Nat.le_refl _) _)
  have hgg : W2.grownBy ((W2.setCell ⟨w.heap.size, 1, none⟩ (.slice va ps.length vc)).setCell ⟨w.heap.size, 2, none⟩ (.int .u8 (rt : Int))) (some w.heap.size) := grownBy_more (grownBy_set W2 w.heap.size 1 _) (grownBy_set _ w.heap.size 2 _) (fun q e => .inr (by injection e with e; omega))
  have HO3 := hide (rows_grownG (unhide HO) hgg (fun g e e2 => by have := (World.ownsRow.lt (unhide HO) g e).1; injection e2 with e2; omega))
  have HCd3 : Hid (BAt ((W2.setCell ⟨w.heap.size, 1, none⟩ (.slice va ps.length vc)).setCell ⟨w.heap.size, 2, none⟩ (.int .u8 (rt : Int))) ca cd) := hide (((unhide HX).code.below' (unhide HB3)))
  have hs3 : w.heap.size + 2 ≤ ((W2.setCell ⟨w.heap.size, 1, none⟩ (.slice va ps.length vc)).setCell ⟨w.heap.size, 2, none⟩ (.int .u8 (rt : Int))).heap.size := by simpa [World.setCell] using hs2
  generalize ((W2.setCell ⟨w.heap.size, 1, none⟩ (.slice va ps.length vc)).setCell ⟨w.heap.size, 2, none⟩ (.int .u8 (rt : Int))) = W3 at HE1 HE2 HB3 HO3 HCd3 hs3 ⊢
  clear k1 k2 k3 k4 hgg HD1 HD2 HCd2 HB2 HO hs2
  have HCl := hide (Clone_any ca cc cd W3 (unhide HCd3) (unhide HX).nil (by have := (unhide HX).fit; simp at this; omega))
  have k1 := (unhide HE1).c 4 rfl
  go_wp2_with fail
  refine (unhide HCl).mono ?_
  rintro e W4 ⟨v4, rfl, hO4, hB4, _⟩
  obtain ⟨ba, bc, rfl, _⟩ := hO4.at
  have HF1 := hide ((unhide HE1).below hB4)
  have HF2 := hide ((unhide HE2).below hB4)
  have HB4 := hide ((unhide HB3).trans (hB4.mono (unhide HB3).size))
  have HO4 := hide hO4
  have HP4 := hide (rowBelow (unhide HO3) hB4)
  have hs4 : w.heap.size + 2 ≤ W4.heap.size := by have := hB4.size; omega
  clear k1 hO4 hB4 HE1 HE2 HCl HCd3
  have k1 := (unhide HF1).c 4 rfl
  have k3 := (unhide HF1).f 4
  go_upto_region 3 with fail
  have HG1 : Hid (Bx (W4.setCell ⟨w.heap.size, 4, none⟩ (.slice ba cd.length bc)) w.heap.size 40 #[.string nm, .slice va ps.length vc, .int .u8 (rt : Int), .int .i64 lo, .slice ba cd.length bc]) := hide ((unhide HF1).set 4 (.slice ba cd.length bc) rfl)
  have HG2 := hide ((unhide HF2).other ⟨w.heap.size, 4, none⟩ (.slice ba cd.length bc) (by simp))
  have HB5 := hide ((unhide HB4).setCell (p := ⟨w.heap.size, 4, none⟩) (Nat.le_refl _) (.slice ba cd.length bc))
  have hgg := grownBy_set W4 w.heap.size 4 (.slice ba cd.length bc)
  have HO5 := hide (rows_grownG (unhide HO4) hgg (fun g e e2 => by have := (World.ownsRow.lt (unhide HO4) g e).1; injection e2 with e2; omega))
  have HP5 := hide (rows_grownG (unhide HP4) hgg (fun g e e2 => by have := (World.ownsRow.lt (unhide HP4) g e).1; injection e2 with e2; omega))
  generalize W4.setCell ⟨w.heap.size, 4, none⟩ (.slice ba cd.length bc) = W5 at HG1 HG2 HB5 HO5 HP5 ⊢
  have HH : Hid (Bx (W5.setRow (w.heap.size + 1) #[.string nm, .slice va ps.length vc, .int .u8 (rt : Int), .int .i64 lo, .slice ba cd.length bc]) (w.heap.size + 1) 40 #[.string nm, .slice va ps.length vc, .int .u8 (rt : Int), .int .i64 lo, .slice ba cd.length bc]) := hide (setRow_heap _ _ _ _ _ _ (unhide HG2))
  have HO6 := hide (rowMono (base' := w.heap.size) (rows_grownG (unhide HO5) (grown_row (w.heap.size + 1) #[.string nm, .slice va ps.length vc, .int .u8 (rt : Int), .int .i64 lo, .slice ba cd.length bc]) (fun g e e2 => by have := (World.ownsRow.lt (unhide HO5) g e).1; injection e2 with e2; omega)) (by omega))
  have HP6 := hide (rowMono (base' := w.heap.size) (rows_grownG (unhide HP5) (grown_row (w.heap.size + 1) #[.string nm, .slice va ps.length vc, .int .u8 (rt : Int), .int .i64 lo, .slice ba cd.length bc]) (fun g e e2 => by have := (World.ownsRow.lt (unhide HP5) g e).1; injection e2 with e2; omega)) (by omega))
  clear k1 k3 hgg
  go_wp2_with (first | (refine wpList_load_rowG (by kernel_rfl) 40 (.tmp 1) rfl w.heap.size rfl 40 #[.string nm, .slice va ps.length vc, .int .u8 (rt : Int), .int .i64 lo, .slice ba cd.length bc] (0, 0) _ (unhide HG1) Tryd.underlying40 rfl (by kernel_rfl) ?_) | (refine wpList_store_row rfl 40 (.tmp 2) (.tmp 11) rfl (w.heap.size + 1) #[.string nm, .slice va ps.length vc, .int .u8 (rt : Int), .int .i64 lo, .slice ba cd.length bc] rfl rfl 40 #[.string ⟨#[]⟩, .slice none 0 0, .int .u8 0, .int .i64 0, .slice none 0 0] (unhide HG2) (by kernel_rfl) rfl (by simp [Value.oneCell']) ?_))
  refine bodyPost_ret (results_bx rfl _ _ (w.heap.size + 1) _ rfl (run_loadVar_row _ _ 40 40 _ (0, 0) _ (unhide HH) Tryd.underlying40 rfl (by kernel_rfl))) rfl ⟨⟨nm, ⟨va, vc, ps, rt⟩, lo, ba, bc, cd⟩, rfl, ⟨⟨rfl, ⟨rfl, rfl⟩, rfl, rfl⟩, unhide HP6, unhide HO6⟩, below_setRow' (unhide HB5) (by omega) _⟩
end Go.Proofs.YtgelbihdcfgjcaaDoor

/-
  provisoplain.Module: a module's copy in memory of its own, the same but for where it lies. Conditions: lengths fit.
-/
namespace Go.Proofs.YtgelbihdcfgjcaaDoor
open Go.RowKit
set_option maxRecDepth 20000

structure Md where
  nm : ByteArray
  ao : Option Addr
  cap : Nat
  T : List Cl
  fo : Option Addr
  fc : Nat
  F : List Fn
  co : Option Addr
  cc : Nat
  C : List Bs
structure MdOk (W : World) (m : Md) : Prop where
  tab : TabAt W m.ao m.T
  tz : m.T.length * 48 ≤ 140737488351232
  fns : FnsAt W m.fo m.F
  fz : m.F.length * 80 ≤ 140737488351232
  cts : BssAt W m.co m.C
  cz : m.C.length * 24 ≤ 140737488351232
  name : m.nm.size ≤ 140737488351232
theorem MdOk.below {W w : World} {m : Md} (h : MdOk W m) (hb : Below W.heap.size W w) : MdOk w m := ⟨h.tab.below hb, h.tz, h.fns.below hb, h.fz, h.cts.below hb, h.cz, h.name⟩
structure SameMd (x y : Md) : Prop where
  nm : y.nm = x.nm
  tab : SameT x.T y.T
  fns : SameFns x.F y.F
  cts : SameBss x.C y.C

/-- No number lies in a block. -/
def NoNum (W : World) (k : Nat) : Prop := ∀ o ik n, W.cell? ⟨k, o, none⟩ ≠ some (.int ik n)
theorem NoNum.of4 {W : World} {k : Nat} {t : TypeId} {s : ByteArray} {a b c : Option Addr} {l1 l2 l3 c1 c2 c3 : Nat} (h : Bx W k t #[.string s, .slice a l1 c1, .slice b l2 c2, .slice c l3 c3]) : NoNum W k := by
  intro o ik n e
  rw [cell_of_row _ _ _ _ _ _ h] at e
  match o, e with
  | 0, e => simp at e
  | 1, e => simp at e
  | 2, e => simp at e
  | 3, e => simp at e
  | o + 4, e => simp at e
theorem farK {W W' : World} {k b : Nat} (hg : W.grownBy W' (some k)) (hn : NoNum W k) {o : Nat} {ik : IntKind} {n : Int} (h : W.cell? ⟨b, o, none⟩ = some (.int ik n)) : ∀ j, W'.cell? ⟨b, j, none⟩ = W.cell? ⟨b, j, none⟩ := by
  have hb : b ≠ k := fun e => hn o ik n (by rw [← e]; exact h)
  have hl : b < W.heap.size := World.block_lt_of_cell? W _ h
  exact fun j => hg.cell_far ⟨b, j, none⟩ hl (fun e => hb (by injection e))
theorem TabAt.noNum {W W' : World} {ao : Option Addr} {T : List Cl} {k : Nat} (h : TabAt W ao T) (hg : W.grownBy W' (some k)) (hn : NoNum W k) : TabAt W' ao T := fun i x hx => by
  obtain ⟨b, off, e, hc⟩ := h i x hx
  have kk := farK hg hn hc.c1
  refine ⟨b, off, e, ⟨(kk _).trans hc.c0, (kk _).trans hc.c1, (kk _).trans hc.c2, ?_, hc.nil, hc.cap, hc.fit, hc.name, hc.par⟩⟩
  intro i f hf'
  obtain ⟨b', off', e', hfl⟩ := hc.flds i f hf'
  have k' := farK hg hn hfl.c1
  exact ⟨b', off', e', ⟨(k' _).trans hfl.c0, (k' _).trans hfl.c1, hfl.name, hfl.ty⟩⟩
theorem FnsAt.noNum {W W' : World} {ao : Option Addr} {L : List Fn} {k : Nat} (h : FnsAt W ao L) (hg : W.grownBy W' (some k)) (hn : NoNum W k) : FnsAt W' ao L := fun i x hx => by
  obtain ⟨b, off, e, hc⟩ := h i x hx
  have kk := farK hg hn hc.c2
  refine ⟨b, off, e, ⟨(kk _).trans hc.c0, (kk _).trans hc.c1, (kk _).trans hc.c2, (kk _).trans hc.c3, (kk _).trans hc.c4, ⟨⟨?_, hc.ok.sg.nil, hc.ok.sg.bts, hc.ok.sg.fit, hc.ok.sg.res⟩, ?_, hc.ok.nil, hc.ok.fit, hc.ok.name, hc.ok.loc⟩⟩⟩
  · intro j t ht
    obtain ⟨b', off', e', h'⟩ := hc.ok.sg.prm j t ht
    exact ⟨b', off', e', (farK hg hn h' _).trans h'⟩
  · intro j hj
    obtain ⟨b', off', e', h'⟩ := hc.ok.code j hj
    exact ⟨b', off', e', (farK hg hn h' _).trans h'⟩

/-! ### Rows of functions, rows of slices of bytes -/
def fncells (y : Fn) : List Value := [.string y.nm, .slice y.sg.po y.sg.ps.length y.sg.pc, .int .u8 (y.sg.rt : Int), .int .i64 y.lo, .slice y.ca y.cd.length y.cc]
def fnvals (G : List Fn) : List Value := G.flatMap fncells
theorem fnvals_length (l : List Fn) : (fnvals l).length = l.length * 5 := by
  unfold fnvals
  induction l with
  | nil => rfl
  | cons f l ih => rw [List.flatMap_cons, List.length_append, ih]; simp [fncells]; omega
theorem fnvals_snoc (l : List Fn) (y : Fn) : fnvals (l ++ [y]) = fnvals l ++ fncells y := by unfold fnvals; simp
theorem fnvals_get : ∀ {l : List Fn} {i : Nat} {f : Fn}, l[i]? = some f → ∀ j, j < 5 → (fnvals l)[i * 5 + j]? = (fncells f)[j]?
  | [], i, f, h, _, _ => by simp at h
  | g :: l, 0, f, h, j, hj => by
    simp at h
    subst h
    unfold fnvals
    rw [List.flatMap_cons, List.getElem?_append_left (by simp [fncells]; omega)]
    simp
  | g :: l, i + 1, f, h, j, hj => by
    have h' : l[i]? = some f := by simpa using h
    have h1 := fnvals_get h' j hj
    unfold fnvals at h1 ⊢
    rw [List.flatMap_cons, List.getElem?_append_right (by simp [fncells]; omega), ← h1]
    congr 1; simp [fncells]; omega
theorem fncells_one (y : Fn) : ∀ u ∈ fncells y, u.oneCell' = true := by
  intro u hu
  simp only [fncells, List.mem_cons, List.mem_nil_iff, or_false] at hu
  rcases hu with rfl | rfl | rfl | rfl | rfl <;> rfl
theorem infoFn : (Tryd.prog.info? 40).map (fun i => (i.zero, i.size, i.bytes)) = some (some (.agg #[.string ⟨#[]⟩, .slice none 0 0, .int .u8 0, .int .i64 0, .slice none 0 0]), 5, 80) := by kernel_rfl
def OwnFn (w : World) (base : Nat) (v : Value) (G : List Fn) : Prop := w.ownsRow base 40 5 v G.length (fnvals G)
def bscells (y : Bs) : Value := .slice y.ca y.cd.length y.cc
def bsvals (G : List Bs) : List Value := G.map bscells
theorem bsvals_snoc (l : List Bs) (y : Bs) : bsvals (l ++ [y]) = bsvals l ++ [bscells y] := by unfold bsvals; simp
theorem infoBs : (Tryd.prog.info? 38).map (fun i => (i.zero, i.size, i.bytes)) = some (some (.slice none 0 0), 1, 24) := by kernel_rfl
def OwnBs (w : World) (base : Nat) (v : Value) (G : List Bs) : Prop := w.ownsRow base 38 1 v G.length (bsvals G)
theorem ownSlice {w : World} {base : Nat} {t : TypeId} {s : Nat} {v : Value} {n : Nat} {cs : List Value} (h : w.ownsRow base t s v n cs) : ∃ va vc, v = .slice va n vc := by
  rcases h.2 with ⟨h1, h2⟩ | ⟨g, cap, cur, rfl, _⟩
  · exact ⟨none, 0, by rw [h1, h2]⟩
  · exact ⟨_, _, rfl⟩

theorem CopyFn.grownAny {w w' : World} {base : Nat} {x y : Fn} {row : Option Nat} (h : CopyFn w base x y) (hg : w.grownBy w' row) (h1 : ∀ g, (Value.slice y.sg.po y.sg.ps.length y.sg.pc).ownBlock = some g → row ≠ some g) (h2 : ∀ g, (Value.slice y.ca y.cd.length y.cc).ownBlock = some g → row ≠ some g) : CopyFn w' base x y :=
  ⟨h.same, rows_grownG h.ownP hg h1, rows_grownG h.ownB hg h2⟩
theorem CopyFn.grown {w w' : World} {base : Nat} {x y : Fn} {v : Value} {n : Nat} {cs : List Value} (h : CopyFn w base x y) (hv : w.ownsRow base 40 5 v n cs) (hg : w.grownBy w' v.ownBlock) : CopyFn w' base x y := by
  refine h.grownAny hg ?_ ?_
  · intro g hb e
    obtain ⟨c1, g1⟩ := rowTy h.ownP g hb
    obtain ⟨c2, g2⟩ := rowTy hv g e
    rw [g1] at g2
    simp at g2
  · intro g hb e
    obtain ⟨c1, g1⟩ := rowTy h.ownB g hb
    obtain ⟨c2, g2⟩ := rowTy hv g e
    rw [g1] at g2
    simp at g2
theorem CopyFn.below {w w' : World} {base : Nat} {x y : Fn} (h : CopyFn w base x y) (hb : Below w.heap.size w w') : CopyFn w' base x y := ⟨h.same, rowBelow h.ownP hb, rowBelow h.ownB hb⟩
theorem CopyFn.box {w w' : World} {base k : Nat} {x y : Fn} (h : CopyFn w base x y) (hg : w.grownBy w' (some k)) (hk : k < base) : CopyFn w' base x y :=
  h.grownAny hg (fun g e e2 => by have := (World.ownsRow.lt h.ownP g e).1; injection e2 with e2; omega) (fun g e e2 => by have := (World.ownsRow.lt h.ownB g e).1; injection e2 with e2; omega)
theorem CopyFn.mono {w : World} {base base' : Nat} {x y : Fn} (h : CopyFn w base x y) (hb : base' ≤ base) : CopyFn w base' x y := ⟨h.same, rowMono h.ownP hb, rowMono h.ownB hb⟩
structure CopyBs (w : World) (base : Nat) (x y : Bs) : Prop where
  same : y.cd = x.cd
  own : OwnB w base (.slice y.ca y.cd.length y.cc) y.cd
theorem CopyBs.grown {w w' : World} {base : Nat} {x y : Bs} {v : Value} {n : Nat} {cs : List Value} (h : CopyBs w base x y) (hv : w.ownsRow base 38 1 v n cs) (hg : w.grownBy w' v.ownBlock) : CopyBs w' base x y := by
  refine ⟨h.same, rows_grownG h.own hg ?_⟩
  intro g hb e
  obtain ⟨c1, g1⟩ := rowTy h.own g hb
  obtain ⟨c2, g2⟩ := rowTy hv g e
  rw [g1] at g2
  simp at g2
theorem CopyBs.below {w w' : World} {base : Nat} {x y : Bs} (h : CopyBs w base x y) (hb : Below w.heap.size w w') : CopyBs w' base x y := ⟨h.same, rowBelow h.own hb⟩
theorem CopyBs.box {w w' : World} {base k : Nat} {x y : Bs} (h : CopyBs w base x y) (hg : w.grownBy w' (some k)) (hk : k < base) : CopyBs w' base x y :=
  ⟨h.same, rows_grownG h.own hg (fun g e e2 => by have := (World.ownsRow.lt h.own g e).1; injection e2 with e2; omega)⟩

theorem nil_of_B {w : World} {base : Nat} {ca : Option Addr} {cc : Nat} {l : List UInt8} (h : OwnB w base (.slice ca l.length cc) l) : BAt w ca l ∧ (ca = none → l = []) := by
  obtain ⟨ba, bc, e, hb⟩ := h.at
  injection e with e1 _ e2
  rw [← e1] at hb
  refine ⟨hb, fun e => ?_⟩
  cases hl : l with
  | nil => rfl
  | cons t l' =>
    obtain ⟨b, off, e', _⟩ := hb 0 (by rw [hl]; simp)
    rw [e] at e'
    cases e'
theorem nil_of_P {w : World} {base : Nat} {ca : Option Addr} {cc : Nat} {l : List Nat} (h : OwnP w base (.slice ca l.length cc) l) : PAt w ca l ∧ (ca = none → l = []) := by
  obtain ⟨ba, bc, e, hb, _⟩ := h.at
  injection e with e1 _ e2
  rw [← e1] at hb
  refine ⟨hb, fun e => ?_⟩
  cases hl : l with
  | nil => rfl
  | cons t l' =>
    obtain ⟨b, off, e', _⟩ := hb 0 t (by rw [hl]; rfl)
    rw [e] at e'
    cases e'
theorem CopyFn.ok {w w0 : World} {base : Nat} {x y : Fn} (h : CopyFn w base x y) (hx : FnOk w0 x) : FnOk w y := by
  obtain ⟨p1, p2⟩ := nil_of_P h.ownP
  obtain ⟨b1, b2⟩ := nil_of_B h.ownB
  exact ⟨⟨p1, p2, by rw [h.same.sg.ps]; exact hx.sg.bts, by rw [h.same.sg.ps]; exact hx.sg.fit, by rw [h.same.sg.rt]; exact hx.sg.res⟩, b1, b2, by rw [h.same.cd]; exact hx.fit, by rw [h.same.nm]; exact hx.name, by rw [h.same.lo]; exact hx.loc⟩
theorem copy_fns {w w0 : World} {base : Nat} {ao : Option Addr} {L M : List Fn} {v : Value} (hL : FnsAt w0 ao L) (hO : OwnFn w base v M) (hl : M.length = L.length) (hc : ∀ (i : Nat) x y, L[i]? = some x → M[i]? = some y → CopyFn w base x y) : ∃ sa sc, v = .slice sa M.length sc ∧ FnsAt w sa M ∧ SameFns L M := by
  have hs : SameFns L M := ⟨hl, fun i x y hx hy => (hc i x y hx hy).same⟩
  rcases hO.2 with ⟨h1, h2⟩ | ⟨g, cap, cur, rfl, hb, hh, hn, hm, hsz, ht⟩
  · have := List.eq_nil_of_length_eq_zero h2
    subst this
    exact ⟨none, 0, h1, fun i x hx => by simp at hx, hs⟩
  · refine ⟨_, cap, rfl, fun i y hy => ⟨g, 0, rfl, ?_⟩, hs⟩
    have hi := (List.getElem?_eq_some_iff.1 hy).1
    have hx := List.getElem?_eq_getElem (show i < L.length by omega)
    have hcy := hc i _ y hx hy
    obtain ⟨_, _, _, hxa⟩ := hL i _ hx
    have hq : ∀ j, j < 5 → w.cell? ⟨g, 0 + i * 5 + j, none⟩ = (fncells y)[j]? := fun j hj => by
      rw [show 0 + i * 5 + j = 0 + (i * 5 + j) by omega, Nat.zero_add, World.ownsRow.cellAt hO (i * 5 + j) (by omega)]
      exact fnvals_get hy j hj
    exact ⟨hq 0 (by omega), hq 1 (by omega), hq 2 (by omega), hq 3 (by omega), hq 4 (by omega), hcy.ok hxa.ok⟩
theorem copy_bss {w w0 : World} {base : Nat} {ao : Option Addr} {L M : List Bs} {v : Value} (hL : BssAt w0 ao L) (hO : OwnBs w base v M) (hl : M.length = L.length) (hc : ∀ (i : Nat) x y, L[i]? = some x → M[i]? = some y → CopyBs w base x y) : ∃ sa sc, v = .slice sa M.length sc ∧ BssAt w sa M ∧ SameBss L M := by
  have hs : SameBss L M := ⟨hl, fun i x y hx hy => (hc i x y hx hy).same⟩
  rcases hO.2 with ⟨h1, h2⟩ | ⟨g, cap, cur, rfl, hb, hh, hn, hm, hsz, ht⟩
  · have := List.eq_nil_of_length_eq_zero h2
    subst this
    exact ⟨none, 0, h1, fun i x hx => by simp at hx, hs⟩
  · refine ⟨_, cap, rfl, fun i y hy => ⟨g, 0, rfl, ?_⟩, hs⟩
    have hi := (List.getElem?_eq_some_iff.1 hy).1
    have hx := List.getElem?_eq_getElem (show i < L.length by omega)
    have hcy := hc i _ y hx hy
    obtain ⟨_, _, _, hxa⟩ := hL i _ hx
    obtain ⟨b1, b2⟩ := nil_of_B hcy.own
    refine ⟨?_, b1, b2, by rw [hcy.same]; exact hxa.fit⟩
    rw [Nat.zero_add, World.ownsRow.cellAt hO i (by omega)]
    unfold bsvals
    rw [List.getElem?_map, hy]
    rfl

/-- Where a module's copy is made: the new box, the table's copy. -/
structure MMid (w W : World) (m : Md) (g : Nat) (ga : Option Addr) (gc : Nat) (G : List Cl) : Prop where
  box : Bx W g 26 #[.string m.nm, .slice ga G.length gc, .slice none 0 0, .slice none 0 0]
  ge : w.heap.size + 2 ≤ g
  old : Bx W (w.heap.size + 1) 26 #[.string ⟨#[]⟩, .slice none 0 0, .slice none 0 0, .slice none 0 0]
  par : Bx W w.heap.size 26 #[.string m.nm, .slice m.ao m.T.length m.cap, .slice m.fo m.F.length m.fc, .slice m.co m.C.length m.cc]
  tab : TabAt W ga G
  same : SameT m.T G
  cap : G.length ≤ gc
  bel : Below w.heap.size w W

/-- While functions are copied. -/
structure FRun (wc wr : World) (L : List Fn) (c0 c1 c3 : Value) (g : Nat) (v : Value) (M : List Fn) : Prop where
  box : Bx wr g 26 #[c0, c1, v, c3]
  own : OwnFn wr wc.heap.size v M
  cps : ∀ (i : Nat) x y, L[i]? = some x → M[i]? = some y → CopyFn wr wc.heap.size x y
  grw : wc.grownBy wr (some g)
theorem FRun.step {wc wr w2 w3 : World} {L M : List Fn} {c0 c1 c3 v v' : Value} {g : Nat} {x y : Fn} {b2 : Nat} {obj : Obj} (h : FRun wc wr L c0 c1 c3 g v M) (hgl : g < wc.heap.size) (hB : Below wr.heap.size wr w2) (hC2 : CopyFn w2 b2 x y) (hb2 : wc.heap.size ≤ b2) (hx : L[M.length]? = some x) (hown : w3.ownsRow wc.heap.size 40 5 v' (M.length + 1) (fnvals M ++ fncells y)) (hg : (w2.alloc obj).grownBy w3 v.ownBlock) : FRun wc (w3.setCell ⟨g, 2, none⟩ v') L c0 c1 c3 g v' (M ++ [y]) := by
  have hB3 : Below wr.heap.size wr (w2.alloc obj) := hB.alloc hB.size _
  have hS3 : OwnFn (w2.alloc obj) wc.heap.size v M := rowBelow h.own hB3
  have hvg : v.ownBlock ≠ some g := fun e => by have := (World.ownsRow.lt h.own g e).1; omega
  have hbx := ((h.box.below hB3).grown hg hvg)
  have hset := grownBy_set w3 g 2 v'
  refine ⟨hbx.set 2 v' rfl, ?_, ?_, ?_⟩
  · unfold OwnFn
    rw [fnvals_snoc, List.length_append]
    exact rows_grownG hown hset (fun q e e2 => by have := (World.ownsRow.lt hown q e).1; injection e2 with e2; omega)
  · intro i x' y' hx' hy'
    by_cases e : i < M.length
    · rw [List.getElem?_append_left e] at hy'
      exact (((h.cps i x' y' hx' hy').below hB3).grown hS3 hg).box hset hgl
    · rw [List.getElem?_append_right (by omega)] at hy'
      have e2 : i - M.length = 0 := by
        have := (List.getElem?_eq_some_iff.1 hy').1
        simp at this
        omega
      rw [e2] at hy'
      simp at hy'
      subst hy'
      have e3 : i = M.length := by omega
      subst e3
      rw [hx] at hx'
      injection hx' with hx'
      subst hx'
      have hcc : CopyFn (w2.alloc obj) wc.heap.size x y := (hC2.below ((Below.refl _ _).alloc (Nat.le_refl _) _)).mono hb2
      exact (hcc.grown hS3 hg).box hset hgl
  · exact grownBy_more (grownBy_more (grownBy_more h.grw (grown_ofBelow hB3 none) (fun q e => by cases e)) hg (fun q e => .inl (World.ownsRow.lt h.own q e).1)) hset (fun q e => .inr (by injection e with e; exact e.symm))
/-- While certificates are copied. -/
structure CRun (wc wr : World) (L : List Bs) (c0 c1 c2 : Value) (g : Nat) (v : Value) (M : List Bs) : Prop where
  box : Bx wr g 26 #[c0, c1, c2, v]
  own : OwnBs wr wc.heap.size v M
  cps : ∀ (i : Nat) x y, L[i]? = some x → M[i]? = some y → CopyBs wr wc.heap.size x y
  grw : wc.grownBy wr (some g)
theorem CRun.step {wc wr w2 w3 : World} {L M : List Bs} {c0 c1 c2 v v' : Value} {g : Nat} {x y : Bs} {b2 : Nat} {obj : Obj} (h : CRun wc wr L c0 c1 c2 g v M) (hgl : g < wc.heap.size) (hB : Below wr.heap.size wr w2) (hC2 : CopyBs w2 b2 x y) (hb2 : wc.heap.size ≤ b2) (hx : L[M.length]? = some x) (hown : w3.ownsRow wc.heap.size 38 1 v' (M.length + 1) (bsvals M ++ [bscells y])) (hg : (w2.alloc obj).grownBy w3 v.ownBlock) : CRun wc (w3.setCell ⟨g, 3, none⟩ v') L c0 c1 c2 g v' (M ++ [y]) := by
  have hB3 : Below wr.heap.size wr (w2.alloc obj) := hB.alloc hB.size _
  have hS3 : OwnBs (w2.alloc obj) wc.heap.size v M := rowBelow h.own hB3
  have hvg : v.ownBlock ≠ some g := fun e => by have := (World.ownsRow.lt h.own g e).1; omega
  have hbx := ((h.box.below hB3).grown hg hvg)
  have hset := grownBy_set w3 g 3 v'
  refine ⟨hbx.set 3 v' rfl, ?_, ?_, ?_⟩
  · unfold OwnBs
    rw [bsvals_snoc, List.length_append]
    exact rows_grownG hown hset (fun q e e2 => by have := (World.ownsRow.lt hown q e).1; injection e2 with e2; omega)
  · intro i x' y' hx' hy'
    by_cases e : i < M.length
    · rw [List.getElem?_append_left e] at hy'
      exact (((h.cps i x' y' hx' hy').below hB3).grown hS3 hg).box hset hgl
    · rw [List.getElem?_append_right (by omega)] at hy'
      have e2 : i - M.length = 0 := by
        have := (List.getElem?_eq_some_iff.1 hy').1
        simp at this
        omega
      rw [e2] at hy'
      simp at hy'
      subst hy'
      have e3 : i = M.length := by omega
      subst e3
      rw [hx] at hx'
      injection hx' with hx'
      subst hx'
      have hcc : CopyBs (w2.alloc obj) wc.heap.size x y := ⟨hC2.same, rowMono (World.ownsRow.alloc hC2.own _) hb2⟩
      exact (hcc.grown hS3 hg).box hset hgl
  · exact grownBy_more (grownBy_more (grownBy_more h.grw (grown_ofBelow hB3 none) (fun q e => by cases e)) hg (fun q e => .inl (World.ownsRow.lt h.own q e).1)) hset (fun q e => .inr (by injection e with e; exact e.symm))
end Go.Proofs.YtgelbihdcfgjcaaDoor

/-
  Rows of things that hold rows: how they lie in a world, what keeps them, how a row of them is built by append. No Go in it.
-/
namespace Go.Proofs.YtgelbihdcfgjcaaDoor
open Go.RowKit
set_option maxRecDepth 20000

/-- A kind of thing: its cells in a row, when it lies well in a world, and of which blocks its rows are. -/
structure Nd (α : Type) where
  t : TypeId
  s : Nat
  cells : α → List Value
  ok : World → α → Prop
  all : (Nat → Prop) → α → Prop
  pos : 0 < s
  len : ∀ x, (cells x).length = s
  below : ∀ {W W' : World} {x : α}, ok W x → Below W.heap.size W W' → ok W' x
  far : ∀ {W W' : World} {x : α} {k : Nat}, ok W x → W.grownBy W' (some k) → all (fun b => b ≠ k) x → ok W' x
  lt : ∀ {W : World} {x : α}, ok W x → all (fun b => b < W.heap.size) x
  mono : ∀ {P Q : Nat → Prop} {x : α}, (∀ b, P b → Q b) → all P x → all Q x
def RowAt {α : Type} (N : Nd α) (W : World) (ao : Option Addr) (L : List α) : Prop := ∀ i y, L[i]? = some y → ∃ b off, ao = some ⟨b, off, none⟩ ∧ W.rangeAt b (off + i * N.s) (N.cells y) ∧ N.ok W y
def RowAll {α : Type} (N : Nd α) (P : Nat → Prop) (ao : Option Addr) (L : List α) : Prop := (∀ b off, ao = some ⟨b, off, none⟩ → 0 < L.length → P b) ∧ ∀ y ∈ L, N.all P y
theorem range_lt {W : World} {b o : Nat} {cs : List Value} (h : W.rangeAt b o cs) (hp : 0 < cs.length) : b < W.heap.size :=
  World.block_lt_of_cell? W _ (h 0 _ (List.getElem?_eq_getElem hp))
theorem range_below {W W' : World} {b o : Nat} {cs : List Value} (h : W.rangeAt b o cs) (hb : Below W.heap.size W W') : W'.rangeAt b o cs := fun j v hv => by
  have hl := range_lt h (by have := (List.getElem?_eq_some_iff.1 hv).1; omega)
  exact (hb.cell (p := ⟨b, o + j, none⟩) hl).trans (h j v hv)
theorem range_far {W W' : World} {b o k : Nat} {cs : List Value} (h : W.rangeAt b o cs) (hg : W.grownBy W' (some k)) (hne : b ≠ k) : W'.rangeAt b o cs := fun j v hv => by
  have hl := range_lt h (by have := (List.getElem?_eq_some_iff.1 hv).1; omega)
  exact (hg.cell_far ⟨b, o + j, none⟩ hl (fun e => hne (by injection e))).trans (h j v hv)
theorem RowAt.below {α : Type} {N : Nd α} {W W' : World} {ao : Option Addr} {L : List α} (h : RowAt N W ao L) (hb : Below W.heap.size W W') : RowAt N W' ao L := fun i y hy => by
  obtain ⟨b, off, e, h1, h2⟩ := h i y hy
  exact ⟨b, off, e, range_below h1 hb, N.below h2 hb⟩
theorem RowAt.far {α : Type} {N : Nd α} {W W' : World} {ao : Option Addr} {L : List α} {k : Nat} (h : RowAt N W ao L) (hg : W.grownBy W' (some k)) (hn : RowAll N (fun b => b ≠ k) ao L) : RowAt N W' ao L := fun i y hy => by
  obtain ⟨b, off, e, h1, h2⟩ := h i y hy
  have hi := (List.getElem?_eq_some_iff.1 hy).1
  exact ⟨b, off, e, range_far h1 hg (hn.1 b off e (by omega)), N.far h2 hg (hn.2 y (List.mem_of_getElem? hy))⟩
theorem RowAt.lt {α : Type} {N : Nd α} {W : World} {ao : Option Addr} {L : List α} (h : RowAt N W ao L) : RowAll N (fun b => b < W.heap.size) ao L := by
  refine ⟨fun b off e hl => ?_, fun y hy => ?_⟩
  · obtain ⟨b', off', e', h1, _⟩ := h 0 _ (List.getElem?_eq_getElem hl)
    rw [e] at e'
    injection e' with e'
    injection e' with e1 e2
    subst e1
    exact range_lt h1 (by rw [N.len]; exact N.pos)
  · obtain ⟨i, hi, e⟩ := List.mem_iff_getElem.1 hy
    obtain ⟨_, _, _, _, h2⟩ := h i y (by rw [← e]; exact List.getElem?_eq_getElem hi)
    exact N.lt h2
theorem RowAll.mono {α : Type} {N : Nd α} {P Q : Nat → Prop} {ao : Option Addr} {L : List α} (hq : ∀ b, P b → Q b) (h : RowAll N P ao L) : RowAll N Q ao L :=
  ⟨fun b off e hl => hq b (h.1 b off e hl), fun y hy => N.mono hq (h.2 y hy)⟩
theorem RowAt.nil {α : Type} (N : Nd α) (W : World) (ao : Option Addr) : RowAt N W ao [] := fun i y h => by simp at h

/-! ### A row that is being built -/
def vals {α : Type} (N : Nd α) (M : List α) : List Value := M.flatMap N.cells
theorem vals_length {α : Type} (N : Nd α) (M : List α) : (vals N M).length = M.length * N.s := by
  unfold vals
  induction M with
  | nil => simp
  | cons x l ih => rw [List.flatMap_cons, List.length_append, ih, N.len, List.length_cons, Nat.add_mul]; omega
theorem vals_snoc {α : Type} (N : Nd α) (M : List α) (y : α) : vals N (M ++ [y]) = vals N M ++ N.cells y := by unfold vals; simp
theorem vals_get {α : Type} (N : Nd α) : ∀ {l : List α} {i : Nat} {x : α}, l[i]? = some x → ∀ j, j < N.s → (vals N l)[i * N.s + j]? = (N.cells x)[j]?
  | [], i, x, h, _, _ => by simp at h
  | g :: l, 0, x, h, j, hj => by
    simp at h
    subst h
    unfold vals
    rw [List.flatMap_cons, List.getElem?_append_left (by rw [N.len]; omega)]
    simp
  | g :: l, i + 1, x, h, j, hj => by
    have h' : l[i]? = some x := by simpa using h
    have h1 := vals_get N h' j hj
    unfold vals at h1 ⊢
    rw [List.flatMap_cons, List.getElem?_append_right (by rw [N.len, Nat.add_mul]; omega), ← h1, N.len, Nat.add_mul]
    congr 1; omega
structure Bld {α : Type} (N : Nd α) (W : World) (base : Nat) (v : Value) (M : List α) : Prop where
  own : W.ownsRow base N.t N.s v M.length (vals N M)
  ok : ∀ y ∈ M, N.ok W y
  lo : ∀ y ∈ M, N.all (fun b => base ≤ b) y
  ne : ∀ g, v.ownBlock = some g → ∀ y ∈ M, N.all (fun b => b ≠ g) y
theorem Bld.nil {α : Type} (N : Nd α) (W : World) (base : Nat) : Bld N W base (.slice none 0 0) [] := ⟨World.ownsRow_nil _ _ _ _, fun y h => (by cases h), fun y h => (by cases h), fun _ _ y h => (by cases h)⟩
theorem Bld.slice {α : Type} {N : Nd α} {W : World} {base : Nat} {v : Value} {M : List α} (h : Bld N W base v M) : ∃ va vc, v = .slice va M.length vc := by
  rcases h.own.2 with ⟨h1, h2⟩ | ⟨g, cap, cur, rfl, _⟩
  · exact ⟨none, 0, by rw [h1, h2]⟩
  · exact ⟨_, _, rfl⟩
theorem Bld.below {α : Type} {N : Nd α} {W W' : World} {base : Nat} {v : Value} {M : List α} (h : Bld N W base v M) (hb : Below W.heap.size W W') : Bld N W' base v M := ⟨rowBelow h.own hb, fun y hy => N.below (h.ok y hy) hb, h.lo, h.ne⟩
theorem Bld.box {α : Type} {N : Nd α} {W W' : World} {base k : Nat} {v : Value} {M : List α} (h : Bld N W base v M) (hg : W.grownBy W' (some k)) (hk : k < base) : Bld N W' base v M :=
  ⟨rows_grownG h.own hg (fun q e e2 => by have := (World.ownsRow.lt h.own q e).1; injection e2 with e2; omega), fun y hy => N.far (h.ok y hy) hg (N.mono (fun b hb => by omega) (h.lo y hy)), h.lo, h.ne⟩
theorem Bld.out {α : Type} {N : Nd α} {W : World} {base : Nat} {v : Value} {M : List α} (h : Bld N W base v M) : ∃ ao cap, v = .slice ao M.length cap ∧ RowAt N W ao M ∧ RowAll N (fun b => base ≤ b) ao M ∧ (ao = none → M = []) := by
  rcases h.own.2 with ⟨h1, h2⟩ | ⟨g, cap, cur, rfl, hb, hh, hn, hm, hsz, ht⟩
  · have := List.eq_nil_of_length_eq_zero h2
    subst this
    exact ⟨none, 0, h1, RowAt.nil _ _ _, ⟨fun b off e => (by cases e), fun y hy => (by cases hy)⟩, fun _ => rfl⟩
  · refine ⟨_, cap, rfl, fun i y hy => ⟨g, 0, rfl, fun j u hu => ?_, h.ok y (List.mem_of_getElem? hy)⟩, ⟨fun b off e _ => ?_, h.lo⟩, fun e => by cases e⟩
    · have hi := (List.getElem?_eq_some_iff.1 hy).1
      have hj := (List.getElem?_eq_some_iff.1 hu).1
      rw [N.len] at hj
      have hmul : (i + 1) * N.s ≤ M.length * N.s := Nat.mul_le_mul_right _ hi
      rw [Nat.add_mul] at hmul
      rw [show 0 + i * N.s + j = i * N.s + j by omega, World.ownsRow.cellAt h.own (i * N.s + j) (by omega), vals_get N hy j hj]
      exact hu
    · injection e with e
      injection e with e1 e2
      omega
theorem Bld.step {α : Type} {N : Nd α} {W w2 w3 : World} {base : Nat} {v : Value} {M : List α} {y : α} {obj : Obj} {g3 cap3 : Nat} (h : Bld N W base v M) (hB : Below W.heap.size W w2) (hy : N.ok w2 y) (hlo : N.all (fun b => W.heap.size ≤ b) y) (hbase : base ≤ W.heap.size) (hown : w3.ownsRow base N.t N.s (.slice (some ⟨g3, 0, none⟩) (M.length + 1) cap3) (M.length + 1) (vals N M ++ N.cells y)) (hg : (w2.alloc obj).grownBy w3 v.ownBlock) (hat : v.ownBlock = some g3 ∨ g3 = w2.heap.size + 1) : Bld N w3 base (.slice (some ⟨g3, 0, none⟩) (M.length + 1) cap3) (M ++ [y]) := by
  have hB3 : Below W.heap.size W (w2.alloc obj) := hB.alloc hB.size _
  have hal : Below w2.heap.size w2 (w2.alloc obj) := (Below.refl _ _).alloc (Nat.le_refl _) _
  have hfar : ∀ x, N.ok (w2.alloc obj) x → (∀ g, v.ownBlock = some g → N.all (fun b => b ≠ g) x) → N.ok w3 x := fun x hx hne => by
    cases hv : v.ownBlock with
    | none => rw [hv] at hg; exact N.below hx ⟨hg.os, hg.tape, hg.output, hg.size, fun k hk => hg.block k hk (by simp)⟩
    | some g => rw [hv] at hg; exact N.far hx hg (hne g hv)
  have hyne : ∀ g, v.ownBlock = some g → N.all (fun b => b ≠ g) y := fun g e => N.mono (fun b hb => by have := (World.ownsRow.lt h.own g e).2; omega) hlo
  have hne3 : ∀ x, N.ok w2 x → (∀ g, v.ownBlock = some g → N.all (fun b => b ≠ g) x) → N.all (fun b => b ≠ g3) x := fun x hx hne => by
    rcases hat with e | e
    · exact hne g3 e
    · exact N.mono (fun b hb => by omega) (N.lt hx)
  refine ⟨?_, ?_, ?_, ?_⟩
  · rw [vals_snoc, List.length_append]; exact hown
  · intro x hx
    rcases List.mem_append.1 hx with hx | hx
    · exact hfar x (N.below (h.ok x hx) hB3) (fun g e => h.ne g e x hx)
    · rw [List.mem_singleton] at hx
      subst hx
      exact hfar x (N.below hy hal) hyne
  · intro x hx
    rcases List.mem_append.1 hx with hx | hx
    · exact h.lo x hx
    · rw [List.mem_singleton] at hx
      subst hx
      exact N.mono (fun b hb => by omega) hlo
  · intro g e x hx
    have e' : g3 = g := by injection e
    subst e'
    rcases List.mem_append.1 hx with hx | hx
    · exact hne3 x (N.below (h.ok x hx) hB) (fun g e => h.ne g e x hx)
    · rw [List.mem_singleton] at hx
      subst hx
      exact hne3 x hy hyne
/-- Two lists, thing by thing. -/
def Two {α : Type} (R : α → α → Prop) (L M : List α) : Prop := M.length = L.length ∧ ∀ (i : Nat) x y, L[i]? = some x → M[i]? = some y → R x y
def twoB {α : Type} (e : α → α → Bool) (L M : List α) : Bool := decide (L.length = M.length) && (L.zip M).all fun p => e p.1 p.2
theorem twoB_len {α : Type} {e : α → α → Bool} {L M : List α} (h : L.length ≠ M.length) : twoB e L M = false := by unfold twoB; simp [h]
theorem twoB_no {α : Type} {e : α → α → Bool} {L M : List α} {j : Nat} {x y : α} (ha : L[j]? = some x) (hb : M[j]? = some y) (h : e x y = false) : twoB e L M = false := by
  unfold twoB
  have : ((L.zip M).all fun p => e p.1 p.2) = false := by
    rw [List.all_eq_false]
    refine ⟨(x, y), List.mem_of_getElem? (i := j) ?_, by rw [h]; simp⟩
    rw [List.getElem?_zip_eq_some]
    exact ⟨ha, hb⟩
  rw [this, Bool.and_false]
theorem twoB_yes {α : Type} {e : α → α → Bool} {L M : List α} (hl : L.length = M.length) (h : ∀ (j : Nat) x y, L[j]? = some x → M[j]? = some y → e x y = true) : twoB e L M = true := by
  unfold twoB
  have : ((L.zip M).all fun p => e p.1 p.2) = true := by
    rw [List.all_eq_true]
    intro p hp
    obtain ⟨j, hj, e1⟩ := List.mem_iff_getElem.1 hp
    have e2 := List.getElem?_eq_getElem hj
    rw [e1, List.getElem?_zip_eq_some] at e2
    exact h j p.1 p.2 e2.1 e2.2
  rw [this]; simp [hl]
theorem twoB_refl {α : Type} {e : α → α → Bool} (h : ∀ x, e x x = true) (L : List α) : twoB e L L = true :=
  twoB_yes rfl (fun j x y h1 h2 => by rw [h1] at h2; injection h2 with h2; rw [h2]; exact h y)
/-- Copies make no odds. -/
theorem twoB_same {α : Type} {e : α → α → Bool} {R : α → α → Prop} (h : ∀ a b x y, R a x → R b y → e x y = e a b) {L M X Y : List α} (hx : Two R L X) (hy : Two R M Y) : twoB e X Y = twoB e L M := by
  by_cases hl : L.length = M.length
  · cases hv : twoB e L M
    · have : ¬ ∀ (j : Nat) x y, L[j]? = some x → M[j]? = some y → e x y = true := fun hh => by rw [twoB_yes hl hh] at hv; cases hv
      rw [Classical.not_forall] at this
      obtain ⟨j, this⟩ := this
      rw [Classical.not_forall] at this
      obtain ⟨a, this⟩ := this
      rw [Classical.not_forall] at this
      obtain ⟨b, this⟩ := this
      rw [Classical.not_imp, Classical.not_imp] at this
      obtain ⟨ha, hb, hn⟩ := this
      have ha' := (List.getElem?_eq_some_iff.1 ha).1
      have hb' := (List.getElem?_eq_some_iff.1 hb).1
      have hxj := List.getElem?_eq_getElem (show j < X.length by rw [hx.1]; exact ha')
      have hyj := List.getElem?_eq_getElem (show j < Y.length by rw [hy.1]; exact hb')
      exact twoB_no hxj hyj (by rw [h a b _ _ (hx.2 j _ _ ha hxj) (hy.2 j _ _ hb hyj)]; simpa using hn)
    · refine twoB_yes (by rw [hx.1, hy.1]; exact hl) (fun j x y h1 h2 => ?_)
      have h1' := (List.getElem?_eq_some_iff.1 h1).1
      have h2' := (List.getElem?_eq_some_iff.1 h2).1
      have haj := List.getElem?_eq_getElem (show j < L.length by rw [← hx.1]; exact h1')
      have hbj := List.getElem?_eq_getElem (show j < M.length by rw [← hy.1]; exact h2')
      rw [h _ _ _ _ (hx.2 j _ _ haj h1) (hy.2 j _ _ hbj h2)]
      generalize L[j]'(by rw [← hx.1]; exact h1') = a at haj ⊢
      generalize M[j]'(by rw [← hy.1]; exact h2') = b at hbj ⊢
      cases he : e a b
      · rw [twoB_no haj hbj he] at hv; cases hv
      · rfl
  · rw [twoB_len hl, twoB_len (by rw [hx.1, hy.1]; exact hl)]
end Go.Proofs.YtgelbihdcfgjcaaDoor

/-
  What a module's reader puts together: rows of fields, classes, functions and certificates in memory of their own. No Go in it.
-/
namespace Go.Proofs.YtgelbihdcfgjcaaDoor
open Go.RowKit
set_option maxRecDepth 20000
set_option linter.unusedVariables false

theorem Bld.snoc {α : Type} {N : Nd α} {w2 w3 : World} {base : Nat} {v : Value} {M : List α} {y : α} {obj : Obj} {g3 cap3 : Nat} (h : Bld N w2 base v M) (hy : N.ok w2 y) (hlo : N.all (fun b => base ≤ b) y) (hyne : ∀ g, v.ownBlock = some g → N.all (fun b => b ≠ g) y) (hown : w3.ownsRow base N.t N.s (.slice (some ⟨g3, 0, none⟩) (M.length + 1) cap3) (M.length + 1) (vals N M ++ N.cells y)) (hg : (w2.alloc obj).grownBy w3 v.ownBlock) (hat : v.ownBlock = some g3 ∨ g3 = w2.heap.size + 1) : Bld N w3 base (.slice (some ⟨g3, 0, none⟩) (M.length + 1) cap3) (M ++ [y]) := by
  have hal : Below w2.heap.size w2 (w2.alloc obj) := (Below.refl _ _).alloc (Nat.le_refl _) _
  have hfar : ∀ x, N.ok (w2.alloc obj) x → (∀ g, v.ownBlock = some g → N.all (fun b => b ≠ g) x) → N.ok w3 x := fun x hx hne => by
    cases hv : v.ownBlock with
    | none => rw [hv] at hg; exact N.below hx ⟨hg.os, hg.tape, hg.output, hg.size, fun k hk => hg.block k hk (by simp)⟩
    | some g => rw [hv] at hg; exact N.far hx hg (hne g hv)
  have hne3 : ∀ x, N.ok w2 x → (∀ g, v.ownBlock = some g → N.all (fun b => b ≠ g) x) → N.all (fun b => b ≠ g3) x := fun x hx hne => by
    rcases hat with e | e
    · exact hne g3 e
    · exact N.mono (fun b hb => by omega) (N.lt hx)
  refine ⟨?_, ?_, ?_, ?_⟩
  · rw [vals_snoc, List.length_append]; exact hown
  · intro x hx
    rcases List.mem_append.1 hx with hx | hx
    · exact hfar x (N.below (h.ok x hx) hal) (fun g e => h.ne g e x hx)
    · rw [List.mem_singleton] at hx
      subst hx
      exact hfar x (N.below hy hal) hyne
  · intro x hx
    rcases List.mem_append.1 hx with hx | hx
    · exact h.lo x hx
    · rw [List.mem_singleton] at hx
      subst hx
      exact hlo
  · intro g e x hx
    have e' : g3 = g := by injection e
    subst e'
    rcases List.mem_append.1 hx with hx | hx
    · exact hne3 x (h.ok x hx) (fun g e => h.ne g e x hx)
    · rw [List.mem_singleton] at hx
      subst hx
      exact hne3 x hy hyne
/-- What is built, with its capacity. -/
theorem Bld.outC {α : Type} {N : Nd α} {W : World} {base : Nat} {v : Value} {M : List α} (h : Bld N W base v M) : ∃ ao cap, v = .slice ao M.length cap ∧ RowAt N W ao M ∧ RowAll N (fun b => base ≤ b) ao M ∧ (ao = none → M = [] ∧ cap = 0) ∧ M.length ≤ cap := by
  obtain ⟨ao, cap, e, h1, h2, h3⟩ := h.out
  rcases h.own.2 with ⟨e1, e2⟩ | ⟨g, c2, cur, e1, _, _, hn, _⟩
  · rw [e1] at e
    injection e with e3 e4 e5
    exact ⟨ao, cap, by rw [e1, ← e3, ← e4, ← e5], h1, h2, fun _ => ⟨h3 e3.symm, e5.symm⟩, by omega⟩
  · rw [e1] at e
    injection e with e3 e4 e5
    refine ⟨ao, cap, by rw [e1, ← e3, ← e5], h1, h2, fun e6 => ?_, by omega⟩
    rw [e6] at e3; cases e3
/-- The row's block is none of its things'. -/
def NeRow {α : Type} (N : Nd α) (ao : Option Addr) (M : List α) : Prop := ∀ b off, ao = some ⟨b, off, none⟩ → ∀ x ∈ M, N.all (fun q => q ≠ b) x
theorem Bld.neOut {α : Type} {N : Nd α} {W : World} {base : Nat} {ao : Option Addr} {n cap : Nat} {M : List α} (h : Bld N W base (.slice ao n cap) M) : NeRow N ao M := fun b off e x hx => by
  subst e
  exact h.ne b rfl x hx
/-! FIELDS -/
def flN : Nd Fl where
  t := 56
  s := 2
  cells := fun f => [.string f.nm, .int .u8 (f.ty : Int)]
  ok := fun _ f => f.nm.size ≤ 140737488351232 ∧ f.ty < 256
  all := fun _ _ => True
  pos := by decide
  len := fun _ => rfl
  below := fun h _ => h
  far := fun h _ _ => h
  lt := fun _ => trivial
  mono := fun _ _ => trivial
theorem fs_of_row {W : World} {fo : Option Addr} {fs : List Fl} (h : RowAt flN W fo fs) : FsAt W fo fs := fun i f hf => by
  obtain ⟨b, off, e, h1, h2, h3⟩ := h i f hf
  exact ⟨b, off, e, h1 0 _ rfl, h1 1 _ rfl, h2, h3⟩
/-! CLASSES -/
structure COk (x : Cl) : Prop where
  nil : x.fo = none → x.fs = [] ∧ x.fc = 0
  cap : x.fs.length ≤ x.fc
  fit : x.fs.length * 24 ≤ 140737488351232
  name : x.nm.size ≤ 140737488351232
  par : -9223372036854775808 ≤ x.par ∧ x.par ≤ 9223372036854775807
def clN : Nd Cl where
  t := 53
  s := 3
  cells := fun x => [.string x.nm, .int .i64 x.par, .slice x.fo x.fs.length x.fc]
  ok := fun W x => COk x ∧ RowAt flN W x.fo x.fs
  all := fun P x => RowAll flN P x.fo x.fs
  pos := by decide
  len := fun _ => rfl
  below := fun h hb => ⟨h.1, h.2.below hb⟩
  far := fun h hg hn => ⟨h.1, h.2.far hg hn⟩
  lt := fun h => h.2.lt
  mono := fun hq h => h.mono hq
theorem tab_of_row {W : World} {ao : Option Addr} {T : List Cl} (h : RowAt clN W ao T) : TabAt W ao T := fun i x hx => by
  obtain ⟨b, off, e, h1, h2, h3⟩ := h i x hx
  exact ⟨b, off, e, h1 0 _ rfl, h1 1 _ rfl, h1 2 _ rfl, fs_of_row h3, h2.nil, h2.cap, h2.fit, h2.name, h2.par⟩
/-! BYTES, FUNCTIONS, CERTIFICATES -/
def BlkOf (P : Nat → Prop) (ao : Option Addr) (n : Nat) : Prop := ∀ b off, ao = some ⟨b, off, none⟩ → 0 < n → P b
theorem bat_far {W W' : World} {k : Nat} {ao : Option Addr} {l : List UInt8} (h : BAt W ao l) (hg : W.grownBy W' (some k)) (hn : BlkOf (fun b => b ≠ k) ao l.length) : BAt W' ao l := fun i hi => by
  obtain ⟨b, off, e, hc⟩ := h i hi
  exact ⟨b, off, e, (hg.cell_far ⟨b, off + i, none⟩ (World.block_lt_of_cell? W _ hc) (fun e2 => hn b off e (by omega) (by injection e2))).trans hc⟩
theorem bat_lt {W : World} {ao : Option Addr} {l : List UInt8} (h : BAt W ao l) : BlkOf (fun b => b < W.heap.size) ao l.length := fun b off e hl => by
  obtain ⟨b', off', e', hc⟩ := h 0 hl
  rw [e] at e'
  injection e' with e'
  injection e' with e1 _
  subst e1
  exact World.block_lt_of_cell? W _ hc
theorem pat_far {W W' : World} {k : Nat} {ao : Option Addr} {l : List Nat} (h : PAt W ao l) (hg : W.grownBy W' (some k)) (hn : BlkOf (fun b => b ≠ k) ao l.length) : PAt W' ao l := fun i t ht => by
  obtain ⟨b, off, e, hc⟩ := h i t ht
  have hi := (List.getElem?_eq_some_iff.1 ht).1
  exact ⟨b, off, e, (hg.cell_far ⟨b, off + i, none⟩ (World.block_lt_of_cell? W _ hc) (fun e2 => hn b off e (by omega) (by injection e2))).trans hc⟩
theorem pat_lt {W : World} {ao : Option Addr} {l : List Nat} (h : PAt W ao l) : BlkOf (fun b => b < W.heap.size) ao l.length := fun b off e hl => by
  obtain ⟨b', off', e', hc⟩ := h 0 _ (List.getElem?_eq_getElem hl)
  rw [e] at e'
  injection e' with e'
  injection e' with e1 _
  subst e1
  exact World.block_lt_of_cell? W _ hc
theorem BlkOf.mono {P Q : Nat → Prop} {ao : Option Addr} {n : Nat} (hq : ∀ b, P b → Q b) (h : BlkOf P ao n) : BlkOf Q ao n := fun b off e hn => hq b (h b off e hn)
/-- The block is a row of bytes, and none of it is frozen. -/
def Pl (W : World) (ao : Option Addr) (n : Nat) : Prop := ∀ b off, ao = some ⟨b, off, none⟩ → 0 < n → ∃ cur, W.heap[b]? = some (.cells cur 5)
theorem Pl.below {W W' : World} {ao : Option Addr} {n : Nat} (h : Pl W ao n) (hb : Below W.heap.size W W') : Pl W' ao n := fun b off e hn => by
  obtain ⟨cur, hc⟩ := h b off e hn
  exact ⟨cur, (hb.block b (Array.getElem?_eq_some_iff.1 hc).1).trans hc⟩
theorem Pl.far {W W' : World} {k : Nat} {ao : Option Addr} {n : Nat} (h : Pl W ao n) (hg : W.grownBy W' (some k)) (hn : BlkOf (fun b => b ≠ k) ao n) : Pl W' ao n := fun b off e hl => by
  obtain ⟨cur, hc⟩ := h b off e hl
  exact ⟨cur, (hg.block b (Array.getElem?_eq_some_iff.1 hc).1 (fun e2 => hn b off e hl (by cases e2; rfl))).trans hc⟩
theorem own_pl {W : World} {base : Nat} {ao : Option Addr} {n c : Nat} {x : List UInt8} (h : OwnB W base (.slice ao n c) x) : Pl W ao n := fun b off e hn => by
  rcases h.2 with ⟨h1, _⟩ | ⟨g, cap, cur, hv, _, hh, _⟩
  · injection h1 with h1 h2
    subst h2
    omega
  · injection hv with hv _
    rw [e] at hv
    injection hv with hv
    injection hv with hv _
    subst hv
    exact ⟨cur, hh⟩
def fnN : Nd Fn where
  t := 40
  s := 5
  cells := fun x => [.string x.nm, .slice x.sg.po x.sg.ps.length x.sg.pc, .int .u8 (x.sg.rt : Int), .int .i64 x.lo, .slice x.ca x.cd.length x.cc]
  ok := fun W x => FnOk W x ∧ Pl W x.ca x.cd.length
  all := fun P x => BlkOf P x.sg.po x.sg.ps.length ∧ BlkOf P x.ca x.cd.length
  pos := by decide
  len := fun _ => rfl
  below := fun h hb => ⟨h.1.below hb, h.2.below hb⟩
  far := fun h hg hn => ⟨⟨⟨pat_far h.1.sg.prm hg hn.1, h.1.sg.nil, h.1.sg.bts, h.1.sg.fit, h.1.sg.res⟩, bat_far h.1.code hg hn.2, h.1.nil, h.1.fit, h.1.name, h.1.loc⟩, h.2.far hg hn.2⟩
  lt := fun h => ⟨pat_lt h.1.sg.prm, bat_lt h.1.code⟩
  mono := fun hq h => ⟨h.1.mono hq, h.2.mono hq⟩
theorem fns_of_row {W : World} {ao : Option Addr} {L : List Fn} (h : RowAt fnN W ao L) : FnsAt W ao L := fun i x hx => by
  obtain ⟨b, off, e, h1, h2⟩ := h i x hx
  exact ⟨b, off, e, h1 0 _ rfl, h1 1 _ rfl, h1 2 _ rfl, h1 3 _ rfl, h1 4 _ rfl, h2.1⟩
structure BsOk (W : World) (x : Bs) : Prop where
  code : BAt W x.ca x.cd
  nil : x.ca = none → x.cd = [] ∧ x.cc = 0
  fit : x.cd.length ≤ 140737488351232
  pl : Pl W x.ca x.cd.length
def bsN : Nd Bs where
  t := 38
  s := 1
  cells := fun x => [.slice x.ca x.cd.length x.cc]
  ok := BsOk
  all := fun P x => BlkOf P x.ca x.cd.length
  pos := by decide
  len := fun _ => rfl
  below := fun h hb => ⟨h.code.below' hb, h.nil, h.fit, h.pl.below hb⟩
  far := fun h hg hn => ⟨bat_far h.code hg hn, h.nil, h.fit, h.pl.far hg hn⟩
  lt := fun h => bat_lt h.code
  mono := fun hq h => h.mono hq
theorem bss_of_row {W : World} {ao : Option Addr} {L : List Bs} (h : RowAt bsN W ao L) : BssAt W ao L := fun i x hx => by
  obtain ⟨b, off, e, h1, h2⟩ := h i x hx
  have h1 : W.rangeAt b (off + i * 1) [.slice x.ca x.cd.length x.cc] := h1
  rw [Nat.mul_one] at h1
  exact ⟨b, off, e, h1 0 _ rfl, h2.code, fun e => (h2.nil e).1, h2.fit⟩
end Go.Proofs.YtgelbihdcfgjcaaDoor

/-
  Parts: how they lie in a world. No Go in it.
-/
namespace Go.Proofs.YtgelbihdcfgjcaaDoor
open Go.RowKit
set_option maxRecDepth 20000
set_option linter.unusedVariables false

structure Im where
  nm : ByteArray
  sg : Sg
def imC (x : Im) : List Value := [.string x.nm, .slice x.sg.po x.sg.ps.length x.sg.pc, .int .u8 (x.sg.rt : Int)]
theorem imC_one (x : Im) : ∀ u ∈ imC x, u.oneCell' = true := by
  intro u hu
  simp only [imC, List.mem_cons, List.mem_nil_iff, or_false] at hu
  rcases hu with rfl | rfl | rfl <;> rfl
structure IOk (W : World) (x : Im) : Prop where
  name : x.nm.size ≤ 140737488351232
  sg : SgOk W x.sg
theorem IOk.below {W w : World} {x : Im} (h : IOk W x) (hb : Below W.heap.size W w) : IOk w x := ⟨h.name, h.sg.below hb⟩
def imN : Nd Im where
  t := 48
  s := 3
  cells := imC
  ok := IOk
  all := fun P x => BlkOf P x.sg.po x.sg.ps.length
  pos := by decide
  len := fun _ => rfl
  below := fun h hb => ⟨h.name, h.sg.below hb⟩
  far := fun h hg hn => ⟨h.name, pat_far h.sg.prm hg hn, h.sg.nil, h.sg.bts, h.sg.fit, h.sg.res⟩
  lt := fun h => pat_lt h.sg.prm
  mono := fun hq h => h.mono hq
theorem infoIm : (Tryd.prog.info? 48).map (fun i => (i.zero, i.size, i.bytes)) = some (some (.agg #[.string ⟨#[]⟩, .slice none 0 0, .int .u8 0]), 3, 48) := by kernel_rfl
structure Pt where
  m : Md
  io : Option Addr
  ic : Nat
  I : List Im
structure PtOk (W : World) (p : Pt) : Prop where
  m : MdOk W p.m
  imp : RowAt imN W p.io p.I
  fit : p.I.length * 48 ≤ 140737488351232
theorem PtOk.below {W w : World} {p : Pt} (h : PtOk W p) (hb : Below W.heap.size W w) : PtOk w p := ⟨h.m.below hb, h.imp.below hb, h.fit⟩
def sameI (x y : Im) : Prop := y.nm = x.nm ∧ y.sg.ps = x.sg.ps ∧ y.sg.rt = x.sg.rt
structure SamePt (x y : Pt) : Prop where
  m : SameMd x.m y.m
  imp : Two sameI x.I y.I
end Go.Proofs.YtgelbihdcfgjcaaDoor
