/-
  Texts of contracts and plain lemmas, one behind another; each says at its head what it holds.
-/
import Derived.Test.YtgelbihdcfgjcaaDoorKSc1
import Derived.Test.YtgelbihdcfgjcaaDoorSo
import Derived.Test.YtgelbihdcfgjcaaDoorJMD
import Derived.Test.YtgelbihdcfgjcaaDoorHl5
/-
  link.Free: which imports a part's code calls. Conditions: lengths fit, at most 1048576 functions.
-/
namespace Go.Proofs.YtgelbihdcfgjcaaDoor
open Go.RowKit
set_option maxRecDepth 20000
set_option linter.unusedVariables false

/-- Whom a list of instructions calls, of the numbers from n on. -/
def isI (n m : Nat) (x : Ix) : Bool := x.op == 21 && (decide ((n : Int) ≤ x.a) && decide (x.a < (n : Int) + (m : Int)))
def clX (n m : Nat) (l : List Ix) : List Int := (l.filter (isI n m)).map fun x => x.a - (n : Int)
theorem clX_snoc (n m : Nat) (l : List Ix) (x : Ix) : clX n m (l ++ [x]) = if isI n m x = true then clX n m l ++ [x.a - (n : Int)] else clX n m l := by
  unfold clX
  rw [List.filter_append]
  by_cases h : isI n m x = true
  · rw [if_pos h]; simp [h]
  · rw [if_neg h]; simp [h]
theorem clX_len (n m : Nat) (l : List Ix) : (clX n m l).length ≤ l.length := by
  unfold clX
  rw [List.length_map]
  exact List.length_filter_le _ _
def lfL (n m : Nat) (F : List Fn) : List Int := F.flatMap fun f => clX n m (scR f.cd).1
theorem lfL_snoc (n m : Nat) (F : List Fn) (f : Fn) : lfL n m (F ++ [f]) = lfL n m F ++ clX n m (scR f.cd).1 := by unfold lfL; simp
theorem lfL_len (n m : Nat) : ∀ F : List Fn, (lfL n m F).length ≤ F.length * 4097
  | [] => by simp [lfL]
  | f :: F => by
    have h1 := lfL_len n m F
    have h2 := clX_len n m (scR f.cd).1
    have h3 := scR_len f.cd
    have h4 : lfL n m (f :: F) = clX n m (scR f.cd).1 ++ lfL n m F := by simp [lfL]
    rw [h4, List.length_append, List.length_cons]
    omega
/-- The first function whose code can't be read. -/
def lfW : List Fn → Nat → Option (Nat × Int)
  | [], _ => none
  | f :: F, i => if (scR f.cd).2.2 = 0 then lfW F (i + 1) else some (i, (scR f.cd).2.2)
def lfR (p : Pt) : List Int × Nat × Int := match lfW p.m.F 0 with
  | some (i, e) => ([], i, e)
  | none => (onceJ (lfL p.m.F.length p.I.length p.m.F), 0, 0)
theorem lfW_drop {F : List Fn} {k : Nat} {x : Fn} (hx : F[k]? = some x) : lfW (F.drop k) k = if (scR x.cd).2.2 = 0 then lfW (F.drop (k + 1)) (k + 1) else some (k, (scR x.cd).2.2) := by
  have hk := (List.getElem?_eq_some_iff.1 hx).1
  rw [List.drop_eq_getElem_cons hk, (List.getElem?_eq_some_iff.1 hx).2]
  rfl
theorem dA_bd32 (op : Nat) (t : List UInt8) (h : op < 34) : -4294967296 ≤ dA op t ∧ dA op t ≤ 4294967296 := by
  have h1 := beNI_lt (t.take (wA op))
  have h2 := wA_le op h
  have h3 : (t.take (wA op)).length ≤ 4 := by rw [List.length_take]; omega
  have h4 : 256 ^ (t.take (wA op)).length ≤ 256 ^ 4 := Nat.pow_le_pow_right (by omega) h3
  have h5 : beNI (t.take (wA op)) < 4294967296 := Nat.lt_of_lt_of_le h1 h4
  unfold dA s32I
  split
  · split <;> omega
  · omega
theorem sc_bd32 (L : List UInt8) : ∀ f k, ∀ x ∈ (scD L f k).1, -4294967296 ≤ x.a ∧ x.a ≤ 4294967296 := by
  intro f
  induction f with
  | zero => intro k x hx; cases hx
  | succ f ih =>
    intro k x hx
    by_cases h : k < L.length
    · by_cases he : dE (L.drop k) = 0
      · rw [sc_good h he] at hx
        rcases List.mem_cons.1 hx with hx | hx
        · rw [hx]
          have ho := (ixD_ok (k := k) he).1
          cases hl : L.drop k with
          | nil => rw [hl] at he; simp [dE] at he
          | cons y t => rw [hl] at ho; exact dA_bd32 _ _ ho
        · exact ih _ x hx
      · rw [sc_bad h he] at hx; cases hx
    · rw [sc_end h] at hx; cases hx
theorem scR_bd32 (L : List UInt8) : ∀ x ∈ (scR L).1, -4294967296 ≤ x.a ∧ x.a ≤ 4294967296 := by
  intro x hx
  unfold scR at hx
  by_cases h : 4096 < L.length
  · rw [if_pos h] at hx; cases hx
  · rw [if_neg h] at hx
    split at hx
    · exact sc_bd32 L _ _ x hx
    · cases hx

theorem ownX_other {w w' : World} {B B2 n : Nat} {v v2 : Value} {l : List Ix} {cs : List Value} (h : OwnX w B v l) (hv : w.ownsRow B2 3 1 v2 n cs) (hg : w.grownBy w' v2.ownBlock) : OwnX w' B v l := by
  refine rows_grownG h hg ?_
  intro g hb e
  obtain ⟨c1, g1⟩ := rowTy h g hb
  obtain ⟨c2, g2⟩ := rowTy hv g e
  rw [g1] at g2
  simp at g2
theorem ownJ_more {w' : World} {B : Nat} {v' : Value} {Y : List Int} {x : Int} (h : w'.ownsRow B 3 1 v' (Y.length + 1) (jvals Y ++ [.int .i64 x])) : OwnJ w' B v' (Y ++ [x]) := by
  unfold OwnJ
  rw [List.length_append]
  have e : jvals (Y ++ [x]) = jvals Y ++ [.int .i64 x] := by unfold jvals; rw [List.map_append]; rfl
  rw [e]
  exact h

/-- A box with a part. -/
def PBx (W : World) (g : Nat) (p : Pt) : Prop := Bx W g 29 #[.string p.m.nm, .slice p.m.ao p.m.T.length p.m.cap, .slice p.m.fo p.m.F.length p.m.fc, .slice p.m.co p.m.C.length p.m.cc, .slice p.io p.I.length p.ic]
theorem PBx.bx {W : World} {g : Nat} {p : Pt} (h : PBx W g p) : Bx W g 29 #[.string p.m.nm, .slice p.m.ao p.m.T.length p.m.cap, .slice p.m.fo p.m.F.length p.m.fc, .slice p.m.co p.m.C.length p.m.cc, .slice p.io p.I.length p.ic] := h
theorem PBx.lt {W : World} {g : Nat} {p : Pt} (h : PBx W g p) : g < W.heap.size := Bx.lt h
theorem PBx.below {W w : World} {g : Nat} {p : Pt} (h : PBx W g p) (hb : Below W.heap.size W w) : PBx w g p := Bx.below h hb
theorem PBx.grown {W w : World} {g : Nat} {p : Pt} {row : Option Nat} (h : PBx W g p) (hg : W.grownBy w row) (hne : row ≠ some g) : PBx w g p := Bx.grown h hg hne
set_option maxRecDepth 20000 in
set_option maxHeartbeats 8000000 in
theorem Free_any (p : Pt) (w : World) (h : PtOk w p) (hW : WidAt w) (hcf : ∀ x ∈ p.m.F, x.cd.length ≤ x.cc) (hn : p.m.F.length ≤ 1048576) :
    Calls Tryd.prog 8 #[.agg #[.string p.m.nm, .slice p.m.ao p.m.T.length p.m.cap, .slice p.m.fo p.m.F.length p.m.fc, .slice p.m.co p.m.C.length p.m.cc, .slice p.io p.I.length p.ic]] w fun e w' => ∃ v, e = .returned (.tuple #[v, .int .i64 ((lfR p).2.1 : Int), .int .i64 (lfR p).2.2]) ∧ OwnJ w' w.heap.size v (lfR p).1 ∧ Below w.heap.size w w' := by
  obtain ⟨i0, hi, hz0, hz1, hz2⟩ := info_parts infoJ
  have al := (Below.refl w.heap.size w).alloc (Nat.le_refl _) (.cells #[.string p.m.nm, .slice p.m.ao p.m.T.length p.m.cap, .slice p.m.fo p.m.F.length p.m.fc, .slice p.m.co p.m.C.length p.m.cc, .slice p.io p.I.length p.ic] 29)
  have HC1 : Hid (PBx (w.alloc (.cells #[.string p.m.nm, .slice p.m.ao p.m.T.length p.m.cap, .slice p.m.fo p.m.F.length p.m.fc, .slice p.m.co p.m.C.length p.m.cc, .slice p.io p.I.length p.ic] 29)) w.heap.size p) := hide (heap_alloc_new w _)
  have hsz : (w.alloc (.cells #[.string p.m.nm, .slice p.m.ao p.m.T.length p.m.cap, .slice p.m.fo p.m.F.length p.m.fc, .slice p.m.co p.m.C.length p.m.cc, .slice p.io p.I.length p.ic] 29)).heap.size = w.heap.size + 1 := by simp
  have HB := hide al
  have H := hide h
  have HW := hide hW
  have HCF := hide hcf
  have hlF : p.m.F.length < 9223372036854775000 := by omega
  have hlI : p.I.length < 140737488351232 := by have := h.fit; omega
  clear al h hW hcf
  go_enter Tryd.func8, Tryd.ntmps8
  go_upto_region 1 with fail
  generalize w.alloc (.cells #[.string p.m.nm, .slice p.m.ao p.m.T.length p.m.cap, .slice p.m.fo p.m.F.length p.m.fc, .slice p.m.co p.m.C.length p.m.cc, .slice p.io p.I.length p.ic] 29) = W1 at HB HC1 hsz ⊢
  have k2 := (unhide HC1).bx.c 2 rfl
  go_wp2_with fail
  clear k2
  go_loopw [22, 6] (fun i fv wr => ∃ (k : Nat) (z : Value), k ≤ p.m.F.length ∧ i = .int .i64 (k : Int) ∧ z = fv ∧ Hid (OwnJ wr (w.heap.size + 1) z (lfL p.m.F.length p.I.length (p.m.F.take k))) ∧ Hid (lfW p.m.F 0 = lfW (p.m.F.drop k) k) ∧ Hid (PBx wr w.heap.size p) ∧ Hid (Below w.heap.size w wr)) (fun i _ _ => p.m.F.length - (intOf i).toNat)
  case atStart => exact ⟨0, _, by omega, rfl, rfl, hide (OwnJ.nil _ _), hide rfl, HC1, HB⟩
  case round =>
    obtain ⟨k, z, hk, rfl, rfl, HO, HR, HC, HBr⟩ := hrel
    by_cases hlt : k < p.m.F.length
    · have j1 : ((k : Nat) : Int) < ((p.m.F.length : Nat) : Int) := by omega
      have hx := List.getElem?_eq_getElem hlt
      obtain ⟨b, off, eb, hxa⟩ := (unhide H).m.fns.below (unhide HBr) k _ hx
      have hcx := unhide HCF _ (List.mem_of_getElem? hx)
      have HD := hide (lfW_drop hx)
      have HTk := hide (take_snoc hx)
      generalize p.m.F[k] = x at hx hxa hcx HD HTk
      have c0 := hxa.c0
      have c1 := hxa.c1
      have c2 := hxa.c2
      have c3 := hxa.c3
      have c4 := hxa.c4
      rw [eb]
      have HXA := hide hxa
      clear hx hxa eb
      go_upto_region 6 with fail
      have hal : Below wr.heap.size wr (wr.alloc (.cells #[.string x.nm, .slice x.sg.po x.sg.ps.length x.sg.pc, .int .u8 (x.sg.rt : Int), .int .i64 x.lo, .slice x.ca x.cd.length x.cc] 40)) := (Below.refl _ _).alloc (Nat.le_refl _) _
      have HF0 : Hid (Bx (wr.alloc (.cells #[.string x.nm, .slice x.sg.po x.sg.ps.length x.sg.pc, .int .u8 (x.sg.rt : Int), .int .i64 x.lo, .slice x.ca x.cd.length x.cc] 40)) wr.heap.size 40 #[.string x.nm, .slice x.sg.po x.sg.ps.length x.sg.pc, .int .u8 (x.sg.rt : Int), .int .i64 x.lo, .slice x.ca x.cd.length x.cc]) := hide (heap_alloc_new wr _)
      have HO1 := hide ((unhide HO).below hal)
      have HC2 := hide ((unhide HC).below hal)
      have HBa := hide ((unhide HBr).trans (hal.mono (unhide HBr).size))
      have HSC := hide (Scan_any x.ca x.cc x.cd _ ((unhide HXA).ok.code.below' hal) ((unhide HW).below ((unhide HBr).trans (hal.mono (unhide HBr).size))) (by have := (unhide HXA).ok.fit; omega) hcx)
      have hlen := scR_len x.cd
      have HBD := hide (scR_bd32 x.cd)
      have hge := (unhide HC).lt
      clear c0 c1 c2 c3 c4 hal HO HC
      generalize wr.alloc (.cells #[.string x.nm, .slice x.sg.po x.sg.ps.length x.sg.pc, .int .u8 (x.sg.rt : Int), .int .i64 x.lo, .slice x.ca x.cd.length x.cc] 40) = Wa at HF0 HO1 HC2 HBa HSC ⊢
      have c4 := (unhide HF0).c 4 rfl
      have hge2 := (unhide HC2).lt
      clear HF0
      have HSP : Hid (lfL p.m.F.length p.I.length (p.m.F.take (k + 1)) = lfL p.m.F.length p.I.length (p.m.F.take k) ++ clX p.m.F.length p.I.length (scR x.cd).1) := hide (by rw [unhide HTk, lfL_snoc])
      have HLE := hide (lfL_len p.m.F.length p.I.length (p.m.F.take k))
      generalize lfL p.m.F.length p.I.length (p.m.F.take k) = Z at HO1 HSP HLE
      generalize scR x.cd = R at HSC hlen HBD HD HSP
      obtain ⟨l, pp, e⟩ := R
      have hlen : l.length ≤ 4097 := hlen
      have HSC : Hid (Calls Tryd.prog 21 #[.slice x.ca x.cd.length x.cc] Wa fun e' w' => ∃ v, e' = .returned (.tuple #[v, .int .i64 (pp : Int), .int .i64 e]) ∧ OwnX w' Wa.heap.size v l ∧ xok l ∧ Below Wa.heap.size Wa w') := HSC
      have HZ : Hid (Z.length ≤ 4300000000) := hide (by have := unhide HLE; rw [List.length_take] at this; omega)
      by_cases he : e = 0
      · subst he
        have HD : Hid (lfW (p.m.F.drop k) k = lfW (p.m.F.drop (k + 1)) (k + 1)) := hide ((unhide HD).trans (if_pos rfl))
        go_upto_region 9 with (go_at_call 21; refine (unhide HSC).mono ?_; rintro e w1 ⟨v, rfl, hO, hK, hB⟩)
        obtain ⟨oa, oc, rfl, hX⟩ := hO.at (fun f hf => by have := (hK f hf).1; omega)
        have HX := hide hO
        have HK := hide hK
        have HOw := hide ((unhide HO1).below hB)
        have HCw := hide ((unhide HC2).below hB)
        have HBw := hide ((unhide HBa).trans (hB.mono (unhide HBa).size))
        clear hO hK hB hX HSC HO1 HC2 HBa c4
        go_wp2_with fail
        go_loopw [40, 6] (fun i fv wq => ∃ (j : Nat) (y : Value), j ≤ l.length ∧ i = .int .i64 (j : Int) ∧ y = fv ∧ Hid (OwnJ wq (w.heap.size + 1) y (Z ++ clX p.m.F.length p.I.length (l.take j))) ∧ Hid (OwnX wq Wa.heap.size (.slice oa l.length oc) l) ∧ Hid (PBx wq w.heap.size p) ∧ Hid (Below w.heap.size w wq)) (fun i _ _ => l.length - (intOf i).toNat)
        case atStart => exact ⟨0, _, by omega, rfl, rfl, hide (by have := unhide HOw; simpa [clX] using this), HX, HCw, HBw⟩
        case round =>
          obtain ⟨j, y, hj, rfl, rfl, HO3, HX3, HC3, HB3⟩ := hrel
          by_cases hjl : j < l.length
          · have j2 : ((j : Nat) : Int) < ((l.length : Nat) : Int) := by omega
            have hx := List.getElem?_eq_getElem hjl
            have hbd := unhide HBD _ (List.mem_of_getElem? hx)
            have hsn := clX_snoc p.m.F.length p.I.length (l.take j) l[j]
            rw [← take_snoc hx] at hsn
            have HSN := hide hsn
            obtain ⟨oa', oc', e0, hX3⟩ := (unhide HX3).at (fun f hf => by have := (unhide HK f hf).1; omega)
            injection e0 with e0 e0b e0c
            subst e0 e0c
            clear e0b
            obtain ⟨b2, off2, e2, hc⟩ := hX3 j _ hx
            clear hX3
            generalize l[j] = x at hx hbd HSN hc hsn
            obtain ⟨c0, c1, c2, c3, ho⟩ := hc
            have hlz : (Z ++ clX p.m.F.length p.I.length (l.take j)).length ≤ 4300004097 := by
              have h1 := unhide HZ
              have h2 := clX_len p.m.F.length p.I.length (l.take j)
              rw [List.length_take] at h2
              rw [List.length_append]; omega
            have HSN2 : Hid (Z ++ clX p.m.F.length p.I.length (l.take (j + 1)) = if isI p.m.F.length p.I.length x = true then (Z ++ clX p.m.F.length p.I.length (l.take j)) ++ [x.a - (p.m.F.length : Int)] else Z ++ clX p.m.F.length p.I.length (l.take j)) := hide (by
              rw [unhide HSN]
              split
              · rw [List.append_assoc]
              · rfl)
            generalize Z ++ clX p.m.F.length p.I.length (l.take j) = Y at HO3 hlz HSN2
            have hal : Below wr.heap.size wr (wr.alloc (.cells #[.int .i64 x.p, .int .u8 (x.op : Int), .int .i64 x.a, .int .i64 x.b] 68)) := (Below.refl _ _).alloc (Nat.le_refl _) _
            have I1 : Hid (IAt (wr.alloc (.cells #[.int .i64 x.p, .int .u8 (x.op : Int), .int .i64 x.a, .int .i64 x.b] 68)) wr.heap.size x.p x.op x.a x.b) := hide (heap_alloc_new wr _)
            have HO4 := hide ((unhide HO3).below hal)
            have HX4 := hide ((unhide HX3).below hal)
            have HC4 := hide ((unhide HC3).below hal)
            have HB4 := hide ((unhide HB3).trans (hal.mono (unhide HB3).size))
            subst e2
            clear hx hal hsn HSN
            go_upto_region 12 with fail
            generalize (wr.alloc (.cells #[.int .i64 x.p, .int .u8 (x.op : Int), .int .i64 x.a, .int .i64 x.b] 68)) = wi at I1 HO4 HX4 HC4 HB4 ⊢
            generalize wr.heap.size = gi at I1 ⊢
            clear c0 c1 c2 c3 HO3 HX3 HC3 HB3
            have d0 := (unhide I1).c0
            obtain ⟨d1, d2, d3⟩ := (unhide I1).c
            have k4 := (unhide HC4).bx.c 4 rfl
            have hge3 := (unhide HC4).lt
            by_cases ho21 : x.op = 21
            · have b1 : (((x.op : Nat) : Int) == 21) = true := by rw [ho21]; rfl
              by_cases hlo : (p.m.F.length : Int) ≤ x.a
              · by_cases hhi : x.a < (p.m.F.length : Int) + (p.I.length : Int)
                · have HN : Hid (Z ++ clX p.m.F.length p.I.length (l.take (j + 1)) = Y ++ [x.a - (p.m.F.length : Int)]) := hide ((unhide HSN2).trans (if_pos (by unfold isI; simp [ho21, hlo, hhi])))
                  clear ho21
                  go_wp2_with (at_builtin; refine wpList_append_own _ rfl _ _ 41 rfl (w.heap.size + 1) 3 i0 (.int .i64 0) 1 8 Tryd.underlying41 hi hz0 hz1 hz2 rfl (by decide) _ Y.length (jvals Y) rfl ((unhide HO4).below ((Below.refl _ _).alloc (Nat.le_refl _) _)) ⟨wi.heap.size, 0, none⟩ 1 1 [.int .i64 (x.a - (p.m.F.length : Int))] rfl rfl (cell_one_newJ _ _ _) (by simp [Value.oneCell']) ?q3 ?q4 ?q5 ?_)
                  case q3 => unfold maxLen; omega
                  case q4 => omega
                  case q5 => first | omega | (simp; omega)
                  intro v' w2 hO2 hG2 hq0
                  clear hq0
                  have hal : Below wi.heap.size wi (wi.alloc (.cells #[.int .i64 (x.a - (p.m.F.length : Int))] 3)) := (Below.refl _ _).alloc (Nat.le_refl _) _
                  have hYa := (unhide HO4).below hal
                  have hgb : ∀ q, y.ownBlock = some q → w.heap.size + 1 ≤ q := fun q e => (World.ownsRow.lt hYa q e).1
                  have HO6 := hide (ownJ_more hO2)
                  have HX6 := hide (ownX_other ((unhide HX4).below hal) hYa hG2)
                  have HC6 := hide (((unhide HC4).below hal).grown hG2 (fun e => by have := hgb _ e; omega))
                  have HB6 := hide (((unhide HB4).trans (hal.mono (unhide HB4).size)).grown hG2 (by have := hal.size; omega) (fun q e => by have := hgb q e; omega))
                  clear hal hYa hgb hO2 hG2
                  go_wp2
                  go_roundw
                  case rel => exact ⟨j + 1, _, by omega, by go_num, rfl, hide (by rw [unhide HN]; exact unhide HO6), HX6, HC6, HB6⟩
                  case measure => simp [intOf]; omega
                · have HN : Hid (Z ++ clX p.m.F.length p.I.length (l.take (j + 1)) = Y) := hide ((unhide HSN2).trans (if_neg (by unfold isI; simp [hhi])))
                  skip
                  go_wp2
                  go_roundw
                  case rel => exact ⟨j + 1, _, by omega, by go_num, rfl, hide (by rw [unhide HN]; exact unhide HO4), HX4, HC4, HB4⟩
                  case measure => simp [intOf]; omega
              · have HN : Hid (Z ++ clX p.m.F.length p.I.length (l.take (j + 1)) = Y) := hide ((unhide HSN2).trans (if_neg (by unfold isI; simp [hlo])))
                skip
                go_wp2
                go_roundw
                case rel => exact ⟨j + 1, _, by omega, by go_num, rfl, hide (by rw [unhide HN]; exact unhide HO4), HX4, HC4, HB4⟩
                case measure => simp [intOf]; omega
            · have b1 : (((x.op : Nat) : Int) == 21) = false := by simp; omega
              have HN : Hid (Z ++ clX p.m.F.length p.I.length (l.take (j + 1)) = Y) := hide ((unhide HSN2).trans (if_neg (by unfold isI; simp [ho21])))
              clear ho21
              go_wp2
              go_roundw
              case rel => exact ⟨j + 1, _, by omega, by go_num, rfl, hide (by rw [unhide HN]; exact unhide HO4), HX4, HC4, HB4⟩
              case measure => simp [intOf]; omega
          · have j2 : ¬ ((j : Nat) : Int) < ((l.length : Nat) : Int) := by omega
            have ej : j = l.length := by omega
            have HO7 : Hid (OwnJ wr (w.heap.size + 1) y (lfL p.m.F.length p.I.length (p.m.F.take (k + 1)))) := hide (by
              have := unhide HO3
              rw [ej, List.take_length] at this
              rw [unhide HSP]
              exact this)
            clear ej
            go_wp2
            go_roundw
            case rel => exact ⟨k + 1, _, by omega, by go_num, rfl, HO7, hide ((unhide HR).trans (unhide HD)), HC3, HB3⟩
            case measure => simp [intOf]; omega
      · have b1 : (e != 0) = true := by simp [he]
        have HLF : Hid (lfR p = ([], k, e)) := hide (by
          unfold lfR
          rw [unhide HR, unhide HD, if_neg he])
        go_wp2_with (go_at_call 21; refine (unhide HSC).mono ?_; rintro e w1 ⟨v, rfl, hO, hK, hB⟩)
        go_ret3
        rw [unhide HLF]
        exact ⟨_, rfl, OwnJ.nil _ _, (unhide HBa).trans (hB.mono (unhide HBa).size)⟩
    · have j1 : ¬ ((k : Nat) : Int) < ((p.m.F.length : Nat) : Int) := by omega
      have ek : k = p.m.F.length := by omega
      have HLF : Hid (lfR p = (onceJ (lfL p.m.F.length p.I.length p.m.F), 0, 0)) := hide (by
        unfold lfR
        rw [unhide HR, ek, List.drop_length]
        rfl)
      rw [ek, List.take_length] at HO
      have hz := lfL_len p.m.F.length p.I.length p.m.F
      have hge := (unhide HC).lt
      generalize lfL p.m.F.length p.I.length p.m.F = Z at HO hz HLF
      have hz2 : Z.length ≤ 4400000000000 := by omega
      clear ek hz HR
      go_wp2_with fail
      refine (Sort_own (unhide HO) hz2).mono ?_
      rintro e w2 ⟨rfl, hO2, hB2⟩
      have HO2 := hide hO2
      have HB2 := hide ((unhide HBr).trans (hB2.mono (by omega)))
      clear hO2 hB2
      go_wp2_with fail
      refine (Compact_own (unhide HO2) (by rw [srtJ_len]; exact hz2)).mono ?_
      rintro e w3 ⟨v', rfl, hO3, hB3⟩
      have HO3 := hide hO3
      have HB3 := hide ((unhide HB2).trans (hB3.mono (by omega)))
      clear hO3 hB3
      go_wp2
      go_ret3
      rw [unhide HLF]
      exact ⟨v', rfl, (unhide HO3).mono (by omega), unhide HB3⟩
end Go.Proofs.YtgelbihdcfgjcaaDoor

/-
  provisoref18.Free: the document's imports that a part's code calls. Conditions: lengths fit.
-/
namespace Go.Proofs.YtgelbihdcfgjcaaDoor
open Go.RowKit
set_option maxRecDepth 20000
set_option linter.unusedVariables false

theorem infoBoL : (Tryd.prog.info? 4).map (fun i => (i.zero, i.size, i.bytes)) = some (some (.bool false), 1, 1) := by kernel_rfl
def bvs (C : List Bool) : Array Value := (C.map fun b => Value.bool b).toArray
theorem made_oneL (v : Value) (N : Nat) : madeCells #[v] N = (List.replicate N v).toArray := by
  apply Array.ext
  · simp [madeCells]
  · intro i h1 h2
    simp [madeCells, Nat.mod_one]
theorem make_boL {N : Nat} (hN : N ≤ 140737488351232) (W : World) : (Instr.makeSlice 71 (.int .i64 (N : Int)) (.int .i64 (N : Int))).run Tryd.prog W = .ok (.slice (some ⟨W.heap.size, 0, none⟩) N N) (W.alloc (.cells (bvs (List.replicate N false)) 4)) := by
  obtain ⟨i, hi, hz0, hz1, hz2⟩ := info_parts infoBoL
  have h := run_make (P := Tryd.prog) W 71 4 i (.bool false) Tryd.underlying71 hi hz0 .i64 .i64 (N : Int) (N : Int) (by omega) (by omega) (by rw [hz2]; omega) (by omega)
  rw [hz1, show ((N : Nat) : Int).toNat = N from by simp, Nat.mul_one] at h
  rw [h]
  show Result.ok _ (W.alloc (.cells (madeCells #[.bool false] N) _)) = _
  rw [made_oneL]
  unfold bvs
  rw [List.map_replicate]
theorem bvs_set (C : List Bool) (k : Nat) (b : Bool) : bvs (C.set k b) = (bvs C).setIfInBounds k (.bool b) := by
  unfold bvs
  rw [List.map_set]
  simp
theorem bvs_get {C : List Bool} {k : Nat} {b : Bool} (h : C[k]? = some b) : (bvs C)[k]? = some (.bool b) := by
  unfold bvs
  simp [h]
/-- The marks of those that are called. -/
def markL (C : List Bool) : List Int → List Bool
  | [] => C
  | x :: l => markL (C.set x.toNat true) l
theorem markL_len : ∀ (l : List Int) (C : List Bool), (markL C l).length = C.length
  | [], _ => rfl
  | x :: l, C => by rw [markL, markL_len l, List.length_set]
theorem markL_snoc : ∀ (l : List Int) (C : List Bool) (x : Int), markL C (l ++ [x]) = (markL C l).set x.toNat true
  | [], _, _ => rfl
  | y :: l, C, x => by rw [List.cons_append, markL, markL_snoc l, markL]
theorem markL_get : ∀ (l : List Int) (C : List Bool) (i : Nat), (∀ x ∈ l, 0 ≤ x) → i < C.length → ((markL C l)[i]? = some true ↔ (C[i]? = some true ∨ (i : Int) ∈ l))
  | [], C, i, _, _ => by simp [markL]
  | x :: l, C, i, h, hi => by
    rw [markL, markL_get l _ i (fun y hy => h y (List.mem_cons_of_mem _ hy)) (by rw [List.length_set]; exact hi)]
    have hx := h x List.mem_cons_self
    rw [List.getElem?_set]
    by_cases e : x.toNat = i
    · have e2 : (i : Int) = x := by omega
      rw [if_pos e, if_pos (by omega)]
      simp [e2]
    · have e2 : (i : Int) ≠ x := by omega
      rw [if_neg e]
      simp [e2]
/-- The places of those that are marked. -/
def outL : List Bool → Nat → List Int
  | [], _ => []
  | true :: C, i => (i : Int) :: outL C (i + 1)
  | false :: C, i => outL C (i + 1)
theorem outL_snoc : ∀ (C : List Bool) (i : Nat) (b : Bool), outL (C ++ [b]) i = if b = true then outL C i ++ [((i + C.length : Nat) : Int)] else outL C i
  | [], i, b => by cases b <;> simp [outL]
  | a :: C, i, b => by
    rw [List.cons_append]
    cases a
    · rw [outL, outL, outL_snoc C (i + 1) b, List.length_cons, show i + 1 + C.length = i + (C.length + 1) by omega]
    · rw [outL, outL, outL_snoc C (i + 1) b, List.length_cons, show i + 1 + C.length = i + (C.length + 1) by omega]
      split <;> rfl
theorem outL_len : ∀ (C : List Bool) (i : Nat), (outL C i).length ≤ C.length
  | [], _ => Nat.zero_le _
  | true :: C, i => by rw [outL, List.length_cons, List.length_cons]; have := outL_len C (i + 1); omega
  | false :: C, i => by rw [outL, List.length_cons]; have := outL_len C (i + 1); omega
theorem outL_mem : ∀ (C : List Bool) (i : Nat) (x : Int), x ∈ outL C i ↔ ∃ j : Nat, C[j]? = some true ∧ x = ((i + j : Nat) : Int)
  | [], i, x => by simp [outL]
  | b :: C, i, x => by
    have ih := outL_mem C (i + 1) x
    have key : (∃ j : Nat, C[j]? = some true ∧ x = ((i + 1 + j : Nat) : Int)) ↔ (∃ j : Nat, (b :: C)[j + 1]? = some true ∧ x = ((i + (j + 1) : Nat) : Int)) := by
      constructor
      · rintro ⟨j, h1, h2⟩; exact ⟨j, by simpa using h1, by rw [h2]; congr 1; omega⟩
      · rintro ⟨j, h1, h2⟩; exact ⟨j, by simpa using h1, by rw [h2]; congr 1; omega⟩
    have key2 : (∃ j : Nat, (b :: C)[j]? = some true ∧ x = ((i + j : Nat) : Int)) ↔ ((b = true ∧ x = (i : Int)) ∨ ∃ j : Nat, (b :: C)[j + 1]? = some true ∧ x = ((i + (j + 1) : Nat) : Int)) := by
      constructor
      · rintro ⟨j, h1, h2⟩
        cases j with
        | zero => left; exact ⟨by simpa using h1, by simpa using h2⟩
        | succ j => right; exact ⟨j, h1, h2⟩
      · rintro (⟨h1, h2⟩ | ⟨j, h1, h2⟩)
        · exact ⟨0, by simp [h1], by simp [h2]⟩
        · exact ⟨j + 1, h1, h2⟩
    rw [key2, ← key, ← ih]
    cases b
    · rw [outL]; simp
    · rw [outL, List.mem_cons]; simp
theorem outL_asc : ∀ (C : List Bool) (i : Nat), AscJ (outL C i) ∧ ∀ x ∈ outL C i, (i : Int) ≤ x
  | [], i => ⟨List.Pairwise.nil, fun x h => by cases h⟩
  | false :: C, i => by
    obtain ⟨h1, h2⟩ := outL_asc C (i + 1)
    exact ⟨h1, fun x hx => by have := h2 x hx; omega⟩
  | true :: C, i => by
    obtain ⟨h1, h2⟩ := outL_asc C (i + 1)
    refine ⟨List.pairwise_cons.2 ⟨fun x hx => by have := h2 x hx; omega, h1⟩, fun x hx => ?_⟩
    rcases List.mem_cons.1 hx with rfl | hx
    · exact Int.le_refl _
    · have := h2 x hx; omega
theorem clX_bd {n m : Nat} {l : List Ix} {x : Int} (h : x ∈ clX n m l) : 0 ≤ x ∧ x < m := by
  unfold clX at h
  obtain ⟨y, hy, rfl⟩ := List.mem_map.1 h
  have := (List.mem_filter.1 hy).2
  unfold isI at this
  simp at this
  omega
theorem lfL_bd {n m : Nat} {F : List Fn} {x : Int} (h : x ∈ lfL n m F) : 0 ≤ x ∧ x < m := by
  unfold lfL at h
  obtain ⟨f, _, hf⟩ := List.mem_flatMap.1 h
  exact clX_bd hf
/-- Both are one. -/
theorem out_once (n m : Nat) (F : List Fn) : outL (markL (List.replicate m false) (lfL n m F)) 0 = onceJ (lfL n m F) := by
  refine asc_ext (outL_asc _ 0).1 (onceJ_asc _) (fun x => ?_)
  rw [outL_mem, mem_onceJ]
  constructor
  · rintro ⟨j, h1, h2⟩
    have hj := (List.getElem?_eq_some_iff.1 h1).1
    rw [markL_len, List.length_replicate] at hj
    rw [markL_get _ _ j (fun x hx => (lfL_bd hx).1) (by rw [List.length_replicate]; exact hj)] at h1
    rcases h1 with h1 | h1
    · rw [List.getElem?_replicate] at h1
      split at h1 <;> simp at h1
    · rw [h2, Nat.zero_add]; exact h1
  · intro hx
    have hb := lfL_bd hx
    refine ⟨x.toNat, ?_, by omega⟩
    rw [markL_get _ _ x.toNat (fun x hx => (lfL_bd hx).1) (by rw [List.length_replicate]; omega)]
    right
    rw [show ((x.toNat : Nat) : Int) = x by omega]
    exact hx
end Go.Proofs.YtgelbihdcfgjcaaDoor

/-
  provisoref18.Free, its walk. Conditions: lengths fit, at most 1048576 functions.
-/
namespace Go.Proofs.YtgelbihdcfgjcaaDoor
open Go.RowKit
set_option maxRecDepth 20000
set_option linter.unusedVariables false

theorem bx_ownX {w : World} {B g : Nat} {v : Value} {l : List Ix} {cs : Array Value} {k : Nat} {u : Value} (h : OwnX w B v l) (hb : Bx w g 4 cs) : OwnX (w.setCell ⟨g, k, none⟩ u) B v l := by
  refine rows_grownG h (grownBy_set w g k u) ?_
  intro q hq e
  injection e with e
  subst e
  obtain ⟨c1, g1⟩ := rowTy h g hq
  have hb : w.heap[g]? = some (.cells cs 4 (0, 0)) := hb
  rw [g1] at hb
  simp at hb
set_option maxRecDepth 20000 in
set_option maxHeartbeats 8000000 in
theorem refFree_any (p : Pt) (w : World) (h : PtOk w p) (hcf : ∀ x ∈ p.m.F, x.cd.length ≤ x.cc) (hn : p.m.F.length ≤ 1048576) :
    Calls Tryd.prog 9 #[.agg #[.string p.m.nm, .slice p.m.ao p.m.T.length p.m.cap, .slice p.m.fo p.m.F.length p.m.fc, .slice p.m.co p.m.C.length p.m.cc, .slice p.io p.I.length p.ic]] w fun e w' => ∃ v, e = .returned (.tuple #[v, .int .i64 ((lfR p).2.1 : Int), .int .i64 (lfR p).2.2]) ∧ OwnJ w' w.heap.size v (lfR p).1 ∧ Below w.heap.size w w' := by
  obtain ⟨i0, hi, hz0, hz1, hz2⟩ := info_parts infoJ
  have al := (Below.refl w.heap.size w).alloc (Nat.le_refl _) (.cells #[.string p.m.nm, .slice p.m.ao p.m.T.length p.m.cap, .slice p.m.fo p.m.F.length p.m.fc, .slice p.m.co p.m.C.length p.m.cc, .slice p.io p.I.length p.ic] 29)
  have HC1 : Hid (PBx (w.alloc (.cells #[.string p.m.nm, .slice p.m.ao p.m.T.length p.m.cap, .slice p.m.fo p.m.F.length p.m.fc, .slice p.m.co p.m.C.length p.m.cc, .slice p.io p.I.length p.ic] 29)) w.heap.size p) := hide (heap_alloc_new w _)
  have hsz : (w.alloc (.cells #[.string p.m.nm, .slice p.m.ao p.m.T.length p.m.cap, .slice p.m.fo p.m.F.length p.m.fc, .slice p.m.co p.m.C.length p.m.cc, .slice p.io p.I.length p.ic] 29)).heap.size = w.heap.size + 1 := by simp
  have HB := hide al
  have H := hide h
  have HCF := hide hcf
  have hlF : p.m.F.length < 9223372036854775000 := by omega
  have hlI : p.I.length ≤ 140737488351232 := by have := h.fit; omega
  have hlI2 : p.I.length ≤ 2932031007402 := by have := h.fit; omega
  clear al h hcf
  go_enter Tryd.func9, Tryd.ntmps9
  go_upto_region 1 with fail
  generalize w.alloc (.cells #[.string p.m.nm, .slice p.m.ao p.m.T.length p.m.cap, .slice p.m.fo p.m.F.length p.m.fc, .slice p.m.co p.m.C.length p.m.cc, .slice p.io p.I.length p.ic] 29) = W1 at HB HC1 hsz ⊢
  have k4 := (unhide HC1).bx.c 4 rfl
  have hmk := make_boL hlI W1
  have hal : Below W1.heap.size W1 (W1.alloc (.cells (bvs (List.replicate p.I.length false)) 4)) := (Below.refl _ _).alloc (Nat.le_refl _) _
  have HM : Hid (Bx (W1.alloc (.cells (bvs (List.replicate p.I.length false)) 4)) (w.heap.size + 1) 4 (bvs (List.replicate p.I.length false))) := hide (by rw [← hsz]; exact heap_alloc_new W1 _)
  have HC2 := hide ((unhide HC1).below hal)
  have HB2 := hide ((unhide HB).trans (hal.mono (unhide HB).size))
  go_upto_region 2 with fail
  generalize W1.alloc (.cells (bvs (List.replicate p.I.length false)) 4) = W2 at HM HC2 HB2 ⊢
  clear k4 hmk hal HC1 HB
  go_wp2_with fail
  go_loopw [6] (fun i wr => ∃ (k : Nat) (C : List Bool), k ≤ p.m.F.length ∧ i = .int .i64 (k : Int) ∧ Hid (C = markL (List.replicate p.I.length false) (lfL p.m.F.length p.I.length (p.m.F.take k))) ∧ Hid (Bx wr (w.heap.size + 1) 4 (bvs C)) ∧ Hid (lfW p.m.F 0 = lfW (p.m.F.drop k) k) ∧ Hid (PBx wr w.heap.size p) ∧ Hid (Below w.heap.size w wr)) (fun i _ => p.m.F.length - (intOf i).toNat)
  case atStart => exact ⟨0, _, by omega, rfl, hide rfl, HM, hide rfl, HC2, HB2⟩
  case round =>
    obtain ⟨k, C, hk, rfl, HCE, HMr, HR, HC, HBr⟩ := hrel
    have k2 := (unhide HC).bx.c 2 rfl
    by_cases hlt : k < p.m.F.length
    · have j1 : ((k : Nat) : Int) < ((p.m.F.length : Nat) : Int) := by omega
      have hx := List.getElem?_eq_getElem hlt
      obtain ⟨b, off, eb, hxa⟩ := (unhide H).m.fns.below (unhide HBr) k _ hx
      have hcx := unhide HCF _ (List.mem_of_getElem? hx)
      have HD := hide (lfW_drop hx)
      have HTk := hide (take_snoc hx)
      generalize p.m.F[k] = x at hx hxa hcx HD HTk
      have c4 := hxa.c4
      rw [eb] at k2
      have HSC := hide (refScan_any x.ca x.cc x.cd wr hxa.ok.code (by have := hxa.ok.fit; omega) hcx)
      have hlen := scR_len x.cd
      have HBD := hide (scR_bd32 x.cd)
      have hge := (unhide HC).lt
      have HSP : Hid (lfL p.m.F.length p.I.length (p.m.F.take (k + 1)) = lfL p.m.F.length p.I.length (p.m.F.take k) ++ clX p.m.F.length p.I.length (scR x.cd).1) := hide (by rw [unhide HTk, lfL_snoc])
      generalize lfL p.m.F.length p.I.length (p.m.F.take k) = Z at HCE HSP
      generalize scR x.cd = R at HSC hlen HBD HD HSP
      obtain ⟨l, pp, e⟩ := R
      have hlen : l.length ≤ 4097 := hlen
      have HSC : Hid (Calls Tryd.prog 24 #[.slice x.ca x.cd.length x.cc] wr fun e' w' => ∃ v, e' = .returned (.tuple #[v, .int .i64 (pp : Int), .int .i64 e]) ∧ OwnX w' wr.heap.size v l ∧ xok l ∧ Below wr.heap.size wr w') := HSC
      clear hx hxa eb
      by_cases he : e = 0
      · subst he
        have HD : Hid (lfW (p.m.F.drop k) k = lfW (p.m.F.drop (k + 1)) (k + 1)) := hide ((unhide HD).trans (if_pos rfl))
        go_upto_region 8 with (go_at_call 24; refine (unhide HSC).mono ?_; rintro e w1 ⟨v, rfl, hO, hK, hB⟩)
        obtain ⟨oa, oc, rfl, _⟩ := hO.at (fun f hf => by have := (hK f hf).1; omega)
        have HX := hide hO
        have HK := hide hK
        have HMw := hide ((unhide HMr).below hB)
        have HCw := hide ((unhide HC).below hB)
        have HBw := hide ((unhide HBr).trans (hB.mono (unhide HBr).size))
        clear hO hK hB HSC c4 k2
        go_wp2_with fail
        go_loopw [10] (fun i wq => ∃ (j : Nat) (D : List Bool), j ≤ l.length ∧ i = .int .i64 (j : Int) ∧ Hid (D = markL (List.replicate p.I.length false) (Z ++ clX p.m.F.length p.I.length (l.take j))) ∧ Hid (Bx wq (w.heap.size + 1) 4 (bvs D)) ∧ Hid (OwnX wq wr.heap.size (.slice oa l.length oc) l) ∧ Hid (PBx wq w.heap.size p) ∧ Hid (Below w.heap.size w wq)) (fun i _ => l.length - (intOf i).toNat)
        case atStart => exact ⟨0, C, by omega, rfl, hide (by rw [unhide HCE]; simp [clX]), HMw, HX, HCw, HBw⟩
        case round =>
          obtain ⟨j, D, hj, rfl, HDE, HM3, HX3, HC3, HB3⟩ := hrel
          by_cases hjl : j < l.length
          · have j2 : ((j : Nat) : Int) < ((l.length : Nat) : Int) := by omega
            have hx := List.getElem?_eq_getElem hjl
            have hbd := unhide HBD _ (List.mem_of_getElem? hx)
            have hsn := clX_snoc p.m.F.length p.I.length (l.take j) l[j]
            rw [← take_snoc hx] at hsn
            have HSN := hide hsn
            obtain ⟨oa', oc', e0, hX3⟩ := (unhide HX3).at (fun f hf => by have := (unhide HK f hf).1; omega)
            injection e0 with e0 e0b e0c
            subst e0 e0c
            clear e0b
            obtain ⟨b2, off2, e2, hc⟩ := hX3 j _ hx
            clear hX3
            generalize l[j] = x at hx hbd HSN hc hsn
            obtain ⟨c0, c1, c2, c3, ho⟩ := hc
            subst e2
            clear hx hsn
            have k2 := (unhide HC3).bx.c 2 rfl
            have hDl : D.length = p.I.length := by rw [unhide HDE, markL_len, List.length_replicate]
            have HDL := hide hDl
            clear hDl
            go_upto_region 11 with fail
            go_quiet (fail)
            have hdr : Below wr.heap.size wr (wr.drewN nq) := belowD (Below.refl _ _) nq
            have HM5 := hide ((unhide HM3).below hdr)
            have HX5 := hide ((unhide HX3).below hdr)
            have HC5 := hide ((unhide HC3).below hdr)
            have HB5 := hide ((unhide HB3).trans (hdr.mono (unhide HB3).size))
            have c1 := (hdr.cell (p := ⟨b2, off2 + j * 4 + 1, none⟩) (World.block_lt_of_cell? wr _ c1)).trans c1
            have hge3 := (unhide HM5).lt
            clear c0 c2 c3 k2 hdr
            generalize wr.drewN nq = w5 at HM5 HX5 HC5 HB5 c1 hge3 ⊢
            clear HM3 HX3 HC3 HB3
            by_cases ho21 : x.op = 21
            · have b1 : (((x.op : Nat) : Int) == 21) = true := by rw [ho21]; rfl
              by_cases hlo : (p.m.F.length : Int) ≤ x.a
              · have hlo2 : 0 ≤ x.a - (p.m.F.length : Int) := by omega
                by_cases hhi : x.a < (p.m.F.length : Int) + (p.I.length : Int)
                · have HN0 : Hid (markL (List.replicate p.I.length false) (Z ++ clX p.m.F.length p.I.length (l.take (j + 1))) = D.set (x.a - (p.m.F.length : Int)).toNat true) := hide (by rw [unhide HSN, if_pos (by unfold isI; simp [ho21, hlo, hhi]), ← List.append_assoc, markL_snoc, unhide HDE])
                  generalize hq : x.a - (p.m.F.length : Int) = q at hlo2 HN0 ⊢
                  obtain ⟨t, rfl⟩ : ∃ t : Nat, q = (t : Int) := ⟨q.toNat, by omega⟩
                  have ht : (t : Int) < (p.I.length : Int) := by omega
                  have ht2 : t < D.length := by rw [unhide HDL]; omega
                  have m0 := (unhide HM5).c t (bvs_get (List.getElem?_eq_getElem ht2))
                  generalize D[t] = dv at m0
                  have f0 := (unhide HM5).f t
                  have HM6 : Hid (Bx (w5.setCell ⟨w.heap.size + 1, t, none⟩ (.bool true)) (w.heap.size + 1) 4 (bvs (D.set t true))) := hide ((unhide HM5).set t _ (bvs_set _ _ _))
                  have HX6 := hide (bx_ownX (k := t) (u := .bool true) (unhide HX5) (unhide HM5))
                  have HC6 : Hid (PBx (w5.setCell ⟨w.heap.size + 1, t, none⟩ (.bool true)) w.heap.size p) := hide ((unhide HC5).bx.other _ _ (by show w.heap.size ≠ w.heap.size + 1; omega))
                  have HB6 := hide ((unhide HB5).setCell (p := ⟨w.heap.size + 1, t, none⟩) (by show w.heap.size ≤ w.heap.size + 1; omega) (.bool true))
                  have HN : Hid (D.set t true = markL (List.replicate p.I.length false) (Z ++ clX p.m.F.length p.I.length (l.take (j + 1)))) := hide (by rw [unhide HN0]; rfl)
                  clear ho21 hq ht2 HN0 hlo hhi
                  go_wp2
                  go_roundw
                  case rel => exact ⟨j + 1, _, by omega, by go_num, HN, HM6, HX6, HC6, HB6⟩
                  case measure => simp [intOf]; omega
                · have hhi2 : ¬ (x.a - (p.m.F.length : Int) < (p.I.length : Int)) := by omega
                  have HN : Hid (D = markL (List.replicate p.I.length false) (Z ++ clX p.m.F.length p.I.length (l.take (j + 1)))) := hide (by rw [unhide HDE, unhide HSN, if_neg (by unfold isI; simp [hhi])])
                  skip
                  go_wp2
                  go_roundw
                  case rel => exact ⟨j + 1, D, by omega, by go_num, HN, HM5, HX5, HC5, HB5⟩
                  case measure => simp [intOf]; omega
              · have hlo2 : ¬ (0 ≤ x.a - (p.m.F.length : Int)) := by omega
                have HN : Hid (D = markL (List.replicate p.I.length false) (Z ++ clX p.m.F.length p.I.length (l.take (j + 1)))) := hide (by rw [unhide HDE, unhide HSN, if_neg (by unfold isI; simp [hlo])])
                skip
                go_wp2
                go_roundw
                case rel => exact ⟨j + 1, D, by omega, by go_num, HN, HM5, HX5, HC5, HB5⟩
                case measure => simp [intOf]; omega
            · have b1 : (((x.op : Nat) : Int) == 21) = false := by simp; omega
              have HN : Hid (D = markL (List.replicate p.I.length false) (Z ++ clX p.m.F.length p.I.length (l.take (j + 1)))) := hide (by rw [unhide HDE, unhide HSN, if_neg (by unfold isI; simp [ho21])])
              clear ho21
              go_wp2
              go_roundw
              case rel => exact ⟨j + 1, D, by omega, by go_num, HN, HM5, HX5, HC5, HB5⟩
              case measure => simp [intOf]; omega
          · have j2 : ¬ ((j : Nat) : Int) < ((l.length : Nat) : Int) := by omega
            have ej : j = l.length := by omega
            have HCE2 : Hid (D = markL (List.replicate p.I.length false) (lfL p.m.F.length p.I.length (p.m.F.take (k + 1)))) := hide (by
              rw [unhide HSP, unhide HDE, ej, List.take_length])
            clear ej
            go_wp2
            go_roundw
            case rel => exact ⟨k + 1, D, by omega, by go_num, HCE2, HM3, hide ((unhide HR).trans (unhide HD)), HC3, HB3⟩
            case measure => simp [intOf]; omega
      · have b1 : (e != 0) = true := by simp [he]
        have HLF : Hid (lfR p = ([], k, e)) := hide (by
          unfold lfR
          rw [unhide HR, unhide HD, if_neg he])
        go_wp2_with (go_at_call 24; refine (unhide HSC).mono ?_; rintro e w1 ⟨v, rfl, hO, hK, hB⟩)
        go_ret3
        rw [unhide HLF]
        exact ⟨_, rfl, OwnJ.nil _ _, (unhide HBr).trans (hB.mono (unhide HBr).size)⟩
    · have j1 : ¬ ((k : Nat) : Int) < ((p.m.F.length : Nat) : Int) := by omega
      have ek : k = p.m.F.length := by omega
      have HLF : Hid (lfR p = (outL C 0, 0, 0)) := hide (by
        unfold lfR
        rw [unhide HR, ek, List.drop_length]
        rw [unhide HCE, ek, List.take_length, out_once]
        rfl)
      have hDl : C.length = p.I.length := by rw [unhide HCE, markL_len, List.length_replicate]
      clear ek HR HCE
      go_wp2_with fail
      clear j1 hlt hk
      go_loopw [13, 12] (fun i ov wq => ∃ (j : Nat) (y : Value), j ≤ p.I.length ∧ i = .int .i64 (j : Int) ∧ y = ov ∧ Hid (OwnJ wq (w.heap.size + 2) y (outL (C.take j) 0)) ∧ Hid (Bx wq (w.heap.size + 1) 4 (bvs C)) ∧ Hid (Below w.heap.size w wq)) (fun i _ _ => p.I.length - (intOf i).toNat)
      case atStart => exact ⟨0, _, by omega, rfl, rfl, hide (OwnJ.nil _ _), HMr, HBr⟩
      case round =>
        obtain ⟨j, y, hj, rfl, rfl, HO, HM4, HB4⟩ := hrel
        by_cases hjl : j < p.I.length
        · have j2 : ((j : Nat) : Int) < ((p.I.length : Nat) : Int) := by omega
          have hjC : j < C.length := by omega
          have hx := List.getElem?_eq_getElem hjC
          have m0 := (unhide HM4).c j (bvs_get hx)
          have hsn := outL_snoc (C.take j) 0 C[j]
          rw [← take_snoc hx, List.length_take, Nat.min_eq_left (by omega), Nat.zero_add] at hsn
          have HSN := hide hsn
          have hol := outL_len (C.take j) 0
          rw [List.length_take, Nat.min_eq_left (by omega)] at hol
          generalize outL (C.take j) 0 = Y at HO hol HSN hsn
          have hge := (unhide HM4).lt
          cases hb : C[j]
          · rw [hb] at m0 HSN
            have HN : Hid (outL (C.take (j + 1)) 0 = Y) := hide ((unhide HSN).trans (if_neg (by simp)))
            clear hsn hb hx HSN
            go_wp2
            go_roundw
            case rel => exact ⟨j + 1, _, by omega, by go_num, rfl, hide (by rw [unhide HN]; exact unhide HO), HM4, HB4⟩
            case measure => simp [intOf]; omega
          · rw [hb] at m0 HSN
            have HN : Hid (outL (C.take (j + 1)) 0 = Y ++ [(j : Int)]) := hide ((unhide HSN).trans (if_pos rfl))
            clear hsn hb hx HSN
            go_wp2_with (at_builtin; refine wpList_append_one_at rfl _ _ 41 rfl (w.heap.size + 2) 3 i0 (.int .i64 0) 1 8 Tryd.underlying41 hi hz0 hz1 hz2 rfl (by decide) _ Y.length (jvals Y) rfl ((unhide HO).below ((Below.refl _ _).alloc (Nat.le_refl _) _)) ⟨wr.heap.size, 0, none⟩ 1 [.int .i64 (j : Int)] rfl rfl (cell_one_newJ _ _ _) (by simp [Value.oneCell']) ?q3 ?q4 ?q5 ?_)
            case q3 => unfold maxLen; omega
            case q4 => omega
            case q5 => first | omega | (simp; omega)
            intro v' w2 hO2 hG2 hq0 hq1
            have hal : Below wr.heap.size wr (wr.alloc (.cells #[.int .i64 (j : Int)] 3)) := (Below.refl _ _).alloc (Nat.le_refl _) _
            have hYa := (unhide HO).below hal
            have hgb : ∀ q, y.ownBlock = some q → w.heap.size + 2 ≤ q := fun q e => (World.ownsRow.lt hYa q e).1
            have HO6 := hide (ownJ_more hO2)
            have HM6 := hide (((unhide HM4).below hal).grown hG2 (fun e => by have := hgb _ e; omega))
            have HB6 := hide (((unhide HB4).trans (hal.mono (unhide HB4).size)).grown hG2 (by have := hal.size; omega) (fun q e => by have := hgb q e; omega))
            clear hal hYa hgb hO2 hG2 hq0 hq1
            go_wp2
            go_roundw
            case rel => exact ⟨j + 1, _, by omega, by go_num, rfl, hide (by rw [unhide HN]; exact unhide HO6), HM6, HB6⟩
            case measure => simp [intOf]; omega
        · have j2 : ¬ ((j : Nat) : Int) < ((p.I.length : Nat) : Int) := by omega
          have HO7 : Hid (OwnJ wr (w.heap.size + 2) y (outL C 0)) := hide (by
            have := unhide HO
            rw [List.take_of_length_le (by omega)] at this
            exact this)
          clear HO
          go_wp2
          go_ret3
          rw [unhide HLF]
          exact ⟨y, rfl, (unhide HO7).mono (by omega), unhide HB4⟩
end Go.Proofs.YtgelbihdcfgjcaaDoor
