/-
  Functions and certificates of a module: how they lie in a world; provisoplain.Func: a function's copy in memory of its own. Conditions: lengths fit.
-/
import Derived.Test.YtibgfdjopikafaaGreatDoorKBx0
namespace Go.Proofs.YtibgfdjopikafaaGreatDoor
open Go.RowKit
set_option maxRecDepth 20000

structure Fn where
  nm : ByteArray
  sg : Sg
  lo : Int
  ca : Option Addr
  cc : Nat
  cd : List UInt8
structure FnOk (W : World) (f : Fn) : Prop where
  sg : SgOk W f.sg
  code : BAt W f.ca f.cd
  nil : f.ca = none → f.cd = []
  fit : f.cd.length ≤ 140737488351232
  name : f.nm.size ≤ 140737488351232
  loc : -9223372036854775808 ≤ f.lo ∧ f.lo ≤ 9223372036854775807
structure FnAt (W : World) (b o : Nat) (f : Fn) : Prop where
  c0 : W.cell? ⟨b, o, none⟩ = some (.string f.nm)
  c1 : W.cell? ⟨b, o + 1, none⟩ = some (.slice f.sg.po f.sg.ps.length f.sg.pc)
  c2 : W.cell? ⟨b, o + 2, none⟩ = some (.int .u8 (f.sg.rt : Int))
  c3 : W.cell? ⟨b, o + 3, none⟩ = some (.int .i64 f.lo)
  c4 : W.cell? ⟨b, o + 4, none⟩ = some (.slice f.ca f.cd.length f.cc)
  ok : FnOk W f
def FnsAt (W : World) (ao : Option Addr) (L : List Fn) : Prop := ∀ i x, L[i]? = some x → ∃ b off, ao = some ⟨b, off, none⟩ ∧ FnAt W b (off + i * 5) x
theorem FnOk.below {W w : World} {x : Fn} (h : FnOk W x) (hb : Below W.heap.size W w) : FnOk w x := ⟨h.sg.below hb, h.code.below' hb, h.nil, h.fit, h.name, h.loc⟩
theorem FnAt.below {W w : World} {b o : Nat} {x : Fn} (h : FnAt W b o x) (hb : Below W.heap.size W w) : FnAt w b o x := by
  have hl : b < W.heap.size := World.block_lt_of_cell? W _ h.c0
  exact ⟨(hb.cell (p := ⟨b, o, none⟩) hl).trans h.c0, (hb.cell (p := ⟨b, o + 1, none⟩) hl).trans h.c1, (hb.cell (p := ⟨b, o + 2, none⟩) hl).trans h.c2, (hb.cell (p := ⟨b, o + 3, none⟩) hl).trans h.c3, (hb.cell (p := ⟨b, o + 4, none⟩) hl).trans h.c4, h.ok.below hb⟩
theorem FnsAt.below {W w : World} {ao : Option Addr} {L : List Fn} (h : FnsAt W ao L) (hb : Below W.heap.size W w) : FnsAt w ao L := fun i x hx => by
  obtain ⟨b, off, e, h1⟩ := h i x hx
  exact ⟨b, off, e, h1.below hb⟩
/-- A slice of bytes in a row of such. -/
structure Bs where
  ca : Option Addr
  cc : Nat
  cd : List UInt8
structure BsAt (W : World) (b o : Nat) (x : Bs) : Prop where
  c0 : W.cell? ⟨b, o, none⟩ = some (.slice x.ca x.cd.length x.cc)
  code : BAt W x.ca x.cd
  nil : x.ca = none → x.cd = []
  fit : x.cd.length ≤ 140737488351232
def BssAt (W : World) (ao : Option Addr) (L : List Bs) : Prop := ∀ i x, L[i]? = some x → ∃ b off, ao = some ⟨b, off, none⟩ ∧ BsAt W b (off + i) x
theorem BsAt.below {W w : World} {b o : Nat} {x : Bs} (h : BsAt W b o x) (hb : Below W.heap.size W w) : BsAt w b o x := by
  have hl : b < W.heap.size := World.block_lt_of_cell? W _ h.c0
  exact ⟨(hb.cell (p := ⟨b, o, none⟩) hl).trans h.c0, h.code.below' hb, h.nil, h.fit⟩
theorem BssAt.below {W w : World} {ao : Option Addr} {L : List Bs} (h : BssAt W ao L) (hb : Below W.heap.size W w) : BssAt w ao L := fun i x hx => by
  obtain ⟨b, off, e, h1⟩ := h i x hx
  exact ⟨b, off, e, h1.below hb⟩

/-! ### A function's copy -/
structure SameFn (x y : Fn) : Prop where
  nm : y.nm = x.nm
  sg : SameS x.sg y.sg
  lo : y.lo = x.lo
  cd : y.cd = x.cd
def SameFns (L M : List Fn) : Prop := M.length = L.length ∧ ∀ (i : Nat) x y, L[i]? = some x → M[i]? = some y → SameFn x y
def SameBss (L M : List Bs) : Prop := M.length = L.length ∧ ∀ (i : Nat) (x y : Bs), L[i]? = some x → M[i]? = some y → y.cd = x.cd
/-- The cells of a function. -/
def fnA (x : Fn) : Array Value := #[.string x.nm, .slice x.sg.po x.sg.ps.length x.sg.pc, .int .u8 (x.sg.rt : Int), .int .i64 x.lo, .slice x.ca x.cd.length x.cc]
structure CopyFn (w : World) (base : Nat) (x y : Fn) : Prop where
  same : SameFn x y
  ownP : OwnP w base (.slice y.sg.po y.sg.ps.length y.sg.pc) y.sg.ps
  ownB : OwnB w base (.slice y.ca y.cd.length y.cc) y.cd

set_option maxRecDepth 20000 in
set_option maxHeartbeats 4000000 in
theorem Func_any (x : Fn) (w : World) (hx : FnOk w x) :
    Calls Tryz.prog 21 #[.agg #[.string x.nm, .slice x.sg.po x.sg.ps.length x.sg.pc, .int .u8 (x.sg.rt : Int), .int .i64 x.lo, .slice x.ca x.cd.length x.cc]] w fun e w' => ∃ y : Fn, e = .returned (.agg #[.string y.nm, .slice y.sg.po y.sg.ps.length y.sg.pc, .int .u8 (y.sg.rt : Int), .int .i64 y.lo, .slice y.ca y.cd.length y.cc]) ∧ CopyFn w' w.heap.size x y ∧ Below w.heap.size w w' := by
  obtain ⟨nm, ⟨po, pc, ps, rt⟩, lo, ca, cc, cd⟩ := x
  have al1 := (Below.refl w.heap.size w).alloc (Nat.le_refl _) (.cells #[.string nm, .slice po ps.length pc, .int .u8 (rt : Int), .int .i64 lo, .slice ca cd.length cc] 44)
  have al := al1.alloc (by simp) (.cells #[.string ⟨#[]⟩, .slice none 0 0, .int .u8 0, .int .i64 0, .slice none 0 0] 44)
  have HB := hide al
  have n1 := heap_alloc_new w (.cells #[.string nm, .slice po ps.length pc, .int .u8 (rt : Int), .int .i64 lo, .slice ca cd.length cc] 44)
  have n2 := heap_alloc_new (w.alloc (.cells #[.string nm, .slice po ps.length pc, .int .u8 (rt : Int), .int .i64 lo, .slice ca cd.length cc] 44)) (.cells #[.string ⟨#[]⟩, .slice none 0 0, .int .u8 0, .int .i64 0, .slice none 0 0] 44)
  rw [World.size_alloc] at n2
  have HC1 : Hid (Bx ((w.alloc (.cells #[.string nm, .slice po ps.length pc, .int .u8 (rt : Int), .int .i64 lo, .slice ca cd.length cc] 44)).alloc (.cells #[.string ⟨#[]⟩, .slice none 0 0, .int .u8 0, .int .i64 0, .slice none 0 0] 44)) w.heap.size 44 #[.string nm, .slice po ps.length pc, .int .u8 (rt : Int), .int .i64 lo, .slice ca cd.length cc]) := hide ((((Below.refl _ _).alloc (Nat.le_refl _) _).block w.heap.size (by simp)).trans n1)
  have HC2 : Hid (Bx ((w.alloc (.cells #[.string nm, .slice po ps.length pc, .int .u8 (rt : Int), .int .i64 lo, .slice ca cd.length cc] 44)).alloc (.cells #[.string ⟨#[]⟩, .slice none 0 0, .int .u8 0, .int .i64 0, .slice none 0 0] 44)) (w.heap.size + 1) 44 #[.string ⟨#[]⟩, .slice none 0 0, .int .u8 0, .int .i64 0, .slice none 0 0]) := hide n2
  have HSg := hide (Sig_any po pc ps rt _ (hx.sg.prm.below al) hx.sg.nil hx.sg.fit)
  have HCd := hide (hx.code.below' al)
  have HX := hide hx
  have hsz : ((w.alloc (.cells #[.string nm, .slice po ps.length pc, .int .u8 (rt : Int), .int .i64 lo, .slice ca cd.length cc] 44)).alloc (.cells #[.string ⟨#[]⟩, .slice none 0 0, .int .u8 0, .int .i64 0, .slice none 0 0] 44)).heap.size = w.heap.size + 2 := by simp
  clear al1 al n1 n2 hx
  go_enter Tryz.func21, Tryz.ntmps21
  go_upto_region 1 with fail
  generalize ((w.alloc (.cells #[.string nm, .slice po ps.length pc, .int .u8 (rt : Int), .int .i64 lo, .slice ca cd.length cc] 44)).alloc (.cells #[.string ⟨#[]⟩, .slice none 0 0, .int .u8 0, .int .i64 0, .slice none 0 0] 44)) = W1 at HB HC1 HC2 HSg HCd hsz ⊢
  have k1 := (unhide HC1).c 1 rfl
  have k2 := (unhide HC1).c 2 rfl
  go_wp2_with fail
  refine (unhide HSg).mono ?_
  rintro e W2 ⟨va, vc, rfl, hO, hB2⟩
  have HD1 := hide ((unhide HC1).below hB2)
  have HD2 := hide ((unhide HC2).below hB2)
  have HB2 := hide ((unhide HB).trans (hB2.mono (unhide HB).size))
  have HCd2 := hide ((unhide HCd).below' hB2)
  have HO := hide hO
  have hs2 : w.heap.size + 2 ≤ W2.heap.size := by have := hB2.size; omega
  clear k1 k2 hO hB2 HC1 HC2 HCd HSg
  have k1 := (unhide HD1).c 1 rfl
  have k2 := (unhide HD1).c 2 rfl
  have k3 := (unhide HD1).f 1
  have k4 := (unhide HD1).f 2
  go_upto_region 2 with fail
  have HE1 : Hid (Bx ((W2.setCell ⟨w.heap.size, 1, none⟩ (.slice va ps.length vc)).setCell ⟨w.heap.size, 2, none⟩ (.int .u8 (rt : Int))) w.heap.size 44 #[.string nm, .slice va ps.length vc, .int .u8 (rt : Int), .int .i64 lo, .slice ca cd.length cc]) := hide (((unhide HD1).set 1 (.slice va ps.length vc) (cs' := #[.string nm, .slice va ps.length vc, .int .u8 (rt : Int), .int .i64 lo, .slice ca cd.length cc]) rfl).set 2 (.int .u8 (rt : Int)) rfl)
  have HE2 := hide (((unhide HD2).other ⟨w.heap.size, 1, none⟩ (.slice va ps.length vc) (by simp)).other ⟨w.heap.size, 2, none⟩ (.int .u8 (rt : Int)) (by simp))
  have HB3 : Hid (Below w.heap.size w ((W2.setCell ⟨w.heap.size, 1, none⟩ (.slice va ps.length vc)).setCell ⟨w.heap.size, 2, none⟩ (.int .u8 (rt : Int)))) := hide (((unhide HB2).setCell (p := ⟨w.heap.size, 1, none⟩) (Nat.le_refl _) _).setCell (p := ⟨w.heap.size, 2, none⟩) (Nat.le_refl _) _)
  have hgg : W2.grownBy ((W2.setCell ⟨w.heap.size, 1, none⟩ (.slice va ps.length vc)).setCell ⟨w.heap.size, 2, none⟩ (.int .u8 (rt : Int))) (some w.heap.size) := grownBy_more (grownBy_set W2 w.heap.size 1 _) (grownBy_set _ w.heap.size 2 _) (fun q e => .inr (by injection e with e; omega))
  have HO3 := hide (rows_grownG (unhide HO) hgg (fun g e e2 => by have := (World.ownsRow.lt (unhide HO) g e).1; injection e2 with e2; omega))
  have HCd3 : Hid (BAt ((W2.setCell ⟨w.heap.size, 1, none⟩ (.slice va ps.length vc)).setCell ⟨w.heap.size, 2, none⟩ (.int .u8 (rt : Int))) ca cd) := hide (((unhide HX).code.below' (unhide HB3)))
  have hs3 : w.heap.size + 2 ≤ ((W2.setCell ⟨w.heap.size, 1, none⟩ (.slice va ps.length vc)).setCell ⟨w.heap.size, 2, none⟩ (.int .u8 (rt : Int))).heap.size := by simpa [World.setCell] using hs2
  generalize ((W2.setCell ⟨w.heap.size, 1, none⟩ (.slice va ps.length vc)).setCell ⟨w.heap.size, 2, none⟩ (.int .u8 (rt : Int))) = W3 at HE1 HE2 HB3 HO3 HCd3 hs3 ⊢
  clear k1 k2 k3 k4 hgg HD1 HD2 HCd2 HB2 HO hs2
  have HCl := hide (Clone_any ca cc cd W3 (unhide HCd3) (unhide HX).nil (by have := (unhide HX).fit; simp at this; omega))
  have k1 := (unhide HE1).c 4 rfl
  go_wp2_with fail
  refine (unhide HCl).mono ?_
  rintro e W4 ⟨v4, rfl, hO4, hB4, _⟩
  obtain ⟨ba, bc, rfl, _⟩ := hO4.at
  have HF1 := hide ((unhide HE1).below hB4)
  have HF2 := hide ((unhide HE2).below hB4)
  have HB4 := hide ((unhide HB3).trans (hB4.mono (unhide HB3).size))
  have HO4 := hide hO4
  have HP4 := hide (rowBelow (unhide HO3) hB4)
  have hs4 : w.heap.size + 2 ≤ W4.heap.size := by have := hB4.size; omega
  clear k1 hO4 hB4 HE1 HE2 HCl HCd3
  have k1 := (unhide HF1).c 4 rfl
  have k3 := (unhide HF1).f 4
  go_upto_region 3 with fail
  have HG1 : Hid (Bx (W4.setCell ⟨w.heap.size, 4, none⟩ (.slice ba cd.length bc)) w.heap.size 44 #[.string nm, .slice va ps.length vc, .int .u8 (rt : Int), .int .i64 lo, .slice ba cd.length bc]) := hide ((unhide HF1).set 4 (.slice ba cd.length bc) rfl)
  have HG2 := hide ((unhide HF2).other ⟨w.heap.size, 4, none⟩ (.slice ba cd.length bc) (by simp))
  have HB5 := hide ((unhide HB4).setCell (p := ⟨w.heap.size, 4, none⟩) (Nat.le_refl _) (.slice ba cd.length bc))
  have hgg := grownBy_set W4 w.heap.size 4 (.slice ba cd.length bc)
  have HO5 := hide (rows_grownG (unhide HO4) hgg (fun g e e2 => by have := (World.ownsRow.lt (unhide HO4) g e).1; injection e2 with e2; omega))
  have HP5 := hide (rows_grownG (unhide HP4) hgg (fun g e e2 => by have := (World.ownsRow.lt (unhide HP4) g e).1; injection e2 with e2; omega))
  generalize W4.setCell ⟨w.heap.size, 4, none⟩ (.slice ba cd.length bc) = W5 at HG1 HG2 HB5 HO5 HP5 ⊢
  have HH : Hid (Bx (W5.setRow (w.heap.size + 1) #[.string nm, .slice va ps.length vc, .int .u8 (rt : Int), .int .i64 lo, .slice ba cd.length bc]) (w.heap.size + 1) 44 #[.string nm, .slice va ps.length vc, .int .u8 (rt : Int), .int .i64 lo, .slice ba cd.length bc]) := hide (setRow_heap _ _ _ _ _ _ (unhide HG2))
  have HO6 := hide (rowMono (base' := w.heap.size) (rows_grownG (unhide HO5) (grown_row (w.heap.size + 1) #[.string nm, .slice va ps.length vc, .int .u8 (rt : Int), .int .i64 lo, .slice ba cd.length bc]) (fun g e e2 => by have := (World.ownsRow.lt (unhide HO5) g e).1; injection e2 with e2; omega)) (by omega))
  have HP6 := hide (rowMono (base' := w.heap.size) (rows_grownG (unhide HP5) (grown_row (w.heap.size + 1) #[.string nm, .slice va ps.length vc, .int .u8 (rt : Int), .int .i64 lo, .slice ba cd.length bc]) (fun g e e2 => by have := (World.ownsRow.lt (unhide HP5) g e).1; injection e2 with e2; omega)) (by omega))
  clear k1 k3 hgg
  go_wp2_with (first | (refine wpList_load_rowG (by kernel_rfl) 44 (.tmp 1) rfl w.heap.size rfl 44 #[.string nm, .slice va ps.length vc, .int .u8 (rt : Int), .int .i64 lo, .slice ba cd.length bc] (0, 0) _ (unhide HG1) Tryz.underlying44 rfl (by kernel_rfl) ?_) | (refine wpList_store_row rfl 44 (.tmp 2) (.tmp 11) rfl (w.heap.size + 1) #[.string nm, .slice va ps.length vc, .int .u8 (rt : Int), .int .i64 lo, .slice ba cd.length bc] rfl rfl 44 #[.string ⟨#[]⟩, .slice none 0 0, .int .u8 0, .int .i64 0, .slice none 0 0] (unhide HG2) (by kernel_rfl) rfl (by simp [Value.oneCell']) ?_))
  refine bodyPost_ret (results_bx rfl _ _ (w.heap.size + 1) _ rfl (run_loadVar_row _ _ 44 44 _ (0, 0) _ (unhide HH) Tryz.underlying44 rfl (by kernel_rfl))) rfl ⟨⟨nm, ⟨va, vc, ps, rt⟩, lo, ba, bc, cd⟩, rfl, ⟨⟨rfl, ⟨rfl, rfl⟩, rfl, rfl⟩, unhide HP6, unhide HO6⟩, below_setRow' (unhide HB5) (by omega) _⟩
end Go.Proofs.YtibgfdjopikafaaGreatDoor
