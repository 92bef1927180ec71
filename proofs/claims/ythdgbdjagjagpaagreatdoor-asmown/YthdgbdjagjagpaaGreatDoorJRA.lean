/-
  Texts of contracts and plain lemmas, one behind another; each says at its head what it holds.
-/
import Derived.Test.YthdgbdjagjagpaaGreatDoorJNU
import Derived.Test.YthdgbdjagjagpaaGreatDoorBx1
import Derived.Test.YthdgbdjagjagpaaGreatDoorAl1
import Derived.Deep.AppendLies
import Derived.Deep.WholeRow
import Derived.Deep.MidRow
import Derived.Deep.RegionHeld
import Derived.Deep.DeepCutAuto
import Derived.Lib.FieldsP
import Derived.Lib.SplitLaws
import Derived.Test.YthdgbdjagjagpaaGreatDoorAl2
import Derived.Maps.Own
import Derived.Maps.OwnOps
import Derived.Maps.OwnSet
import Derived.Maps.Views
import Derived.StringKeys
import Derived.Test.YthdgbdjagjagpaaGreatDoorJPR
import Derived.Test.YthdgbdjagjagpaaGreatDoorIn14
/-
  What writes to asm's reader leave as it is: a relation of worlds with listed types and blocks. No Go in it.
-/
namespace Go.Proofs.YthdgbdjagjagpaaGreatDoor
open Go.RowKit
set_option maxRecDepth 20000
set_option linter.unusedVariables false

/-- All below B stay, and all blocks that are not listed and of no listed type. -/
structure Kq (B : Nat) (ts : List TypeId) (gs : List Nat) (W W' : World) : Prop where
  bel : Below B W W'
  blk : ∀ (k : Nat) (o : Obj), W.heap[k]? = some o → k ∉ gs → (∀ cs t fr, o = .cells cs t fr → t ∉ ts) → W'.heap[k]? = some o
theorem Kq.refl (B : Nat) (ts : List TypeId) (gs : List Nat) (W : World) : Kq B ts gs W W := ⟨Below.refl _ _, fun _ _ h _ _ => h⟩
theorem Kq.trans {B : Nat} {ts : List TypeId} {gs : List Nat} {W W1 W2 : World} (h : Kq B ts gs W W1) (k : Kq B ts gs W1 W2) : Kq B ts gs W W2 := ⟨h.bel.trans k.bel, fun i o hi hg ht => k.blk i o (h.blk i o hi hg ht) hg ht⟩
theorem Kq.mono {B B' : Nat} {ts ts' : List TypeId} {gs gs' : List Nat} {W W1 : World} (h : Kq B ts gs W W1) (hB : B' ≤ B) (hs : ∀ t, t ∈ ts → t ∈ ts') (hg : ∀ g, g ∈ gs → g ∈ gs') : Kq B' ts' gs' W W1 :=
  ⟨h.bel.mono hB, fun i o hi hn ht => h.blk i o hi (fun e => hn (hg i e)) (fun cs t fr e hh => ht cs t fr e (hs t hh))⟩
theorem Kq.size {B : Nat} {ts : List TypeId} {gs : List Nat} {W W1 : World} (h : Kq B ts gs W W1) : W.heap.size ≤ W1.heap.size := h.bel.size
theorem Kq.of_below {B : Nat} {ts : List TypeId} {gs : List Nat} {W W' : World} (h : Below W.heap.size W W') (hB : B ≤ W.heap.size) : Kq B ts gs W W' :=
  ⟨h.mono hB, fun k o hk _ _ => (h.block k (Array.getElem?_eq_some_iff.1 hk).1).trans hk⟩
theorem Kq.of_grown {B : Nat} {ts : List TypeId} {gs : List Nat} {W W' : World} {row : Option Nat} (hg : W.grownBy W' row) (hB : B ≤ W.heap.size) (hr : ∀ k, row = some k → B ≤ k ∧ (k ∈ gs ∨ ∃ (cs : Array Value) (t : TypeId) (fr : Nat × Nat), W.heap[k]? = some (.cells cs t fr) ∧ t ∈ ts)) : Kq B ts gs W W' := by
  refine ⟨⟨hg.os, hg.tape, hg.output, hg.size, fun k hk => hg.block k (by omega) (fun e => by have := (hr k e.symm).1; omega)⟩, fun k o hk hn ht => ?_⟩
  refine (hg.block k (Array.getElem?_eq_some_iff.1 hk).1 (fun e => ?_)).trans hk
  rcases (hr k e.symm).2 with h | ⟨cs', t', fr', h', ht'⟩
  · exact hn h
  · rw [hk] at h'
    injection h' with h'
    exact ht cs' t' fr' h' ht'
theorem Kq.set {B : Nat} {ts : List TypeId} {gs : List Nat} {W : World} {g : Nat} {t : TypeId} {cs : Array Value} (h : Bx W g t cs) (hB : B ≤ g) (ht : t ∈ ts) (i : Nat) (v : Value) : Kq B ts gs W (W.setCell ⟨g, i, none⟩ v) := by
  refine ⟨(Below.refl B W).setCell (p := ⟨g, i, none⟩) hB v, fun k o hk hn ht' => ?_⟩
  refine (Below.heap_setCell W ⟨g, i, none⟩ v k (fun e => ?_)).trans hk
  have e : k = g := e
  subst e
  rw [h] at hk
  injection hk with hk
  exact ht' cs t (0, 0) hk.symm ht
theorem Bx.kq {B : Nat} {ts : List TypeId} {gs : List Nat} {W W' : World} {g : Nat} {t : TypeId} {cs : Array Value} (h : Bx W g t cs) (hk : Kq B ts gs W W') (hg : g ∉ gs) (ht : t ∉ ts) : Bx W' g t cs :=
  hk.blk g _ h hg (fun cs' t' fr' e => by injection e with _ e; subst e; exact ht)
theorem own_kq {B base : Nat} {ts : List TypeId} {gs : List Nat} {W W' : World} {e : TypeId} {size n : Nat} {v : Value} {xs : List Value} (h : W.ownsRow base e size v n xs) (hk : Kq B ts gs W W') (hg : ∀ k, v.ownBlock = some k → k ∉ gs) (ht : e ∉ ts) : W'.ownsRow base e size v n xs := by
  refine ⟨h.1, ?_⟩
  rcases h.2 with h' | ⟨g, cap, cur, h1, h2, h3, h4⟩
  · exact Or.inl h'
  · exact Or.inr ⟨g, cap, cur, h1, h2, hk.blk g _ h3 (hg g (by rw [h1]; rfl)) (fun cs' t' fr' e' => by injection e' with _ e'; subst e'; exact ht), h4⟩
theorem map_kq {H : Type} {P : Program} {k : TypeId} {R : Value → Option (DataW H × List MemPlace)} {b n : Nat} {D : DataW H} {B : Nat} {ts : List TypeId} {gs : List Nat} {W W' : World} (h : W.ownsMap P k R b n D) (hk : Kq B ts gs W W') (hg : b ∉ gs) : W'.ownsMap P k R b n D := by
  obtain ⟨es, clock, hb, F, hs, hD⟩ := h
  exact ⟨es, clock, hk.blk b _ hb hg (fun cs t fr e => by cases e), F, hs, hD⟩
end Go.Proofs.YthdgbdjagjagpaaGreatDoor

/-
  asm's reader: put. Conditions: lengths fit, the widths are laid.
-/
namespace Go.Proofs.YthdgbdjagjagpaaGreatDoor
open Go.RowKit
set_option maxRecDepth 20000
set_option linter.unusedVariables false
set_option linter.unusedSimpArgs false

theorem own_blockA {base : Nat} {W : World} {e : TypeId} {size n : Nat} {v : Value} {xs : List Value} (h : W.ownsRow base e size v n xs) : ∀ k, v.ownBlock = some k → base ≤ k ∧ ∃ (cs : Array Value) (t : TypeId) (fr : Nat × Nat), W.heap[k]? = some (.cells cs t fr) ∧ t ∈ [e] := by
  intro k hk
  rcases h.2 with ⟨rfl, _⟩ | ⟨g, cap, cur, rfl, h2, h3, h4⟩
  · cases hk
  · have e' : g = k := by injection hk
    subst e'
    exact ⟨h2, cur, e, (0, 0), h3, by simp⟩
theorem own_snoc {w : World} {B g0 cap g i : Nat} {t : TypeId} {cs : Array Value} {l : List Ix} {x : Ix} {v : Value} (h : w.ownsRow B 72 4 (.slice (some ⟨g0, 0, none⟩) (l.length + 1) cap) (l.length + 1) (xvals l ++ xcells x)) (hR : Bx w g t cs) (ht : 72 ≠ t) : OwnX (w.setCell ⟨g, i, none⟩ v) B (.slice (some ⟨g0, 0, none⟩) (l.length + 1) cap) (l ++ [x]) := by
  have h2 := own_kq h (Kq.set (B := 0) (ts := [t]) (gs := []) hR (Nat.zero_le _) (by simp) i v) (by simp) (by simpa using ht)
  unfold OwnX
  have e : xvals (l ++ [x]) = xvals l ++ xcells x := by simp [xvals]
  rw [e, List.length_append]
  exact h2
theorem box_rangeA {W : World} {g : Nat} {cs : Array Value} {t : TypeId} (h : Bx W g t cs) : W.rangeAt g 0 cs.toList := fun j v hv => by
  have e := cell_of_row W g (0 + j) _ _ _ h
  rw [e, Nat.zero_add]
  simpa using hv
def rdC (mo ml : Nat) (vl : Value) (size : Int) (vj : Value) : Array Value := #[.map (some mo), .map (some ml), vl, .int .i64 size, vj]
def PutIs (w w' : World) (B g mo ml : Nat) (vl : Value) (size : Int) (vj : Value) (l : List Ix) (op : Nat) (a b : Int) (e : Ending) : Prop :=
  if eE op a b ≠ 0 then e = .returned (.int .i64 (eE op a b)) ∧ Below w.heap.size w w'
  else if 4096 < size + (eL op a b).length then e = .returned (.int .i64 4) ∧ Below w.heap.size w w'
  else e = .returned (.int .i64 0) ∧ ∃ vl', Bx w' g 53 (rdC mo ml vl' (size + (eL op a b).length) vj) ∧ OwnX w' B vl' (l ++ [⟨0, op, a, b⟩]) ∧ Kq B [72, 53] [] w w'
set_option maxHeartbeats 4000000 in
theorem put_any (g mo ml : Nat) (vl : Value) (size : Int) (vj : Value) (l : List Ix) (op : Nat) (a b : Int) (B : Nat) (w : World) (hR : Bx w g 53 (rdC mo ml vl size vj)) (hO : OwnX w B vl l) (hB : B ≤ g) (hW : WidAt w) (ho : op < 256)
    (hs0 : 0 ≤ size) (hs1 : size ≤ 4096) (hl : l.length ≤ 5000) :
    Calls Tryz.prog 81 #[.pointer (some ⟨g, 0, none⟩), .agg #[.int .i64 0, .int .u8 (op : Int), .int .i64 a, .int .i64 b]] w fun e w' => PutIs w w' B g mo ml vl size vj l op a b e := by
  have al : Below w.heap.size w (w.alloc (.cells #[.int .i64 0, .int .u8 (op : Int), .int .i64 a, .int .i64 b] 72)) := (Below.refl _ _).alloc (Nat.le_refl _) _
  have HI : Hid (IAt (w.alloc (.cells #[.int .i64 0, .int .u8 (op : Int), .int .i64 a, .int .i64 b] 72)) w.heap.size 0 op a b) := hide (heap_alloc_new w _)
  have HB := hide al
  have HW := hide (hW.below al)
  have HR := hide (hR.below al)
  have HO : Hid (OwnX (w.alloc (.cells #[.int .i64 0, .int .u8 (op : Int), .int .i64 a, .int .i64 b] 72)) B vl l) := hide (World.ownsRow.alloc hO _)
  have HBg := hide hB
  have hgw := hR.lt
  have HLTO := hide (fun k e => (World.ownsRow.lt hO k e).2)
  have HGW := hide hgw
  clear al hW hR hO hB hgw
  go_enter Tryz.func81, Tryz.ntmps81
  go_upto_region 1 with fail
  generalize (w.alloc (.cells #[.int .i64 0, .int .u8 (op : Int), .int .i64 a, .int .i64 b] 72)) = w2 at HI HB HW HR HO ⊢
  have d0 := (unhide HI).c0
  obtain ⟨d1, d2, d3⟩ := (unhide HI).c
  have HE := hide (Encode_any 0 op a b w2 (unhide HW) ho)
  go_wp2_with fail
  refine (unhide HE).mono ?_
  rintro e w3 ⟨v, rfl, hob, hb3⟩
  have HI3 := hide ((unhide HI).below hb3)
  have HB3 := hide ((unhide HB).trans (hb3.mono (unhide HB).size))
  have HR3 := hide ((unhide HR).below hb3)
  have HO3 : Hid (OwnX w3 B vl l) := hide (by
    refine ⟨(unhide HO).1, ?_⟩
    rcases (unhide HO).2 with h1 | ⟨g', cap, cur, hv, hbg, hh, r⟩
    · exact Or.inl h1
    · exact Or.inr ⟨g', cap, cur, hv, hbg, by rw [hb3.block g' (Array.getElem?_eq_some_iff.1 hh).1]; exact hh, r⟩)
  clear hb3 HE HI HB HW HR HO d0 d1 d2 d3
  by_cases he : eE op a b = 0
  case neg =>
    have t0 : (eE op a b != 0) = true := bne_t he
    have HNE := hide he
    clear he hob
    go_wp2_with fail
    go_ret
    unfold PutIs
    rw [if_pos (unhide HNE)]
    exact ⟨rfl, unhide HB3⟩
  have t0 : (eE op a b != 0) = false := bne_f he
  have HNE := hide he
  obtain ⟨ab, cb, rfl, hbt⟩ : ∃ ab cb, v = .slice ab (eL op a b).length cb ∧ True := by
    rcases hob.2 with ⟨h1, h2⟩ | ⟨g', cap, cur, rfl, _⟩
    · exact ⟨none, 0, by rw [h1, h2], trivial⟩
    · exact ⟨_, cap, rfl, trivial⟩
  have k3 := (unhide HR3).c 3 (v := .int .i64 size) rfl
  have hn5 : (eL op a b).length ≤ 100 := by
    have h34 : op < 34 := by
      refine Classical.byContradiction fun h => ?_
      unfold eE at he
      rw [if_neg h] at he
      exact absurd he (by decide)
    have h1 := wA_le op h34
    have h2 : wB op ≤ 4 := by
      have hall : ∀ o, o < 34 → wB o ≤ 4 := by decide
      exact hall op h34
    unfold eL
    rw [if_pos he, encL_length]
    omega
  clear hob hbt he
  by_cases hbig : 4096 < size + (eL op a b).length
  · have j1 : size + ((eL op a b).length : Int) > 4096 := hbig
    have HBIG := hide hbig
    clear hbig
    go_wp2_with fail
    go_ret
    unfold PutIs
    rw [if_neg (by rw [unhide HNE]; simp), if_pos (unhide HBIG)]
    exact ⟨rfl, unhide HB3⟩
  · have j1 : ¬ size + ((eL op a b).length : Int) > 4096 := hbig
    obtain ⟨oa, oc, rfl⟩ : ∃ oa oc, vl = .slice oa l.length oc := by
      rcases (unhide HO3).2 with ⟨h1, h2⟩ | ⟨g', cap, cur, hv, _⟩
      · exact ⟨none, 0, by rw [h1, h2]⟩
      · exact ⟨_, cap, hv⟩
    obtain ⟨i0, hi0, hz0, hz1, hz2⟩ := info_parts infoX
    have HBX : Hid (Bx w3 w.heap.size 72 #[.int .i64 0, .int .u8 (op : Int), .int .i64 a, .int .i64 b]) := HI3
    have HNO : Hid ((Value.slice oa l.length oc).ownBlock ≠ some w.heap.size) := hide (fun e => by have := unhide HLTO _ e; omega)
    have HNR : Hid ((Value.slice oa l.length oc).ownBlock ≠ some g) := hide (fun e => by
      obtain ⟨_, cs, t, fr, h2, h3⟩ := own_blockA (unhide HO3) g e
      have hx : w3.heap[g]? = _ := unhide HR3
      rw [hx] at h2
      injection h2 with h2
      injection h2 with _ h2
      subst h2
      simp at h3)
    have HGB : Hid (w.heap.size ≠ g) := hide (by have := unhide HGW; omega)
    have HK3 : Hid (Kq B [72, 53] [] w w3) := hide (Kq.of_below (unhide HB3) (by have := unhide HGW; have := unhide HBg; omega))
    have HBB : Hid (B ≤ w3.heap.size) := hide (by have := (unhide HB3).size; have := unhide HGW; have := unhide HBg; omega)
    obtain ⟨bx, HBXE⟩ : ∃ bx, w.heap.size = bx := ⟨_, rfl⟩
    rw [HBXE] at HBX HNO HGB ⊢
    clear HBXE
    go_upto_region 6 with fail
    go_cut [] (fun wx => ∃ vl', Hid (Bx wx g 53 (#[.map (some mo), .map (some ml), vl', .int .i64 size, vj])) ∧ Hid (OwnX wx B vl' (l ++ [⟨0, op, a, b⟩])) ∧ Hid (Kq B [72, 53] [] w wx))
    case first =>
      have hS0 : Bx w3.drew bx 72 #[.int .i64 0, .int .u8 (op : Int), .int .i64 a, .int .i64 b] := unhide HBX
      refine wp_region_held_drew (S := fun w' => Bx w' bx 72 #[.int .i64 0, .int .u8 (op : Int), .int .i64 a, .int .i64 b]) (by kernel_rfl) hS0 (fun hS => ?_)
      have HD : Hid (Below w3.heap.size w3 w3.drew) := hide (belowD (Below.refl _ _) 1)
      have HRd : Hid (Bx w3.drew g 53 (rdC mo ml (.slice oa l.length oc) size vj)) := HR3
      have HOw : Hid (OwnX w3.drew B (.slice oa l.length oc) l) := HO3
      have HKd := hide ((unhide HK3).trans (Kq.of_below (unhide HD) (unhide HBB)))
      have hBd : B ≤ w3.drew.heap.size := unhide HBB
      clear hS0 HR3 HO3 HK3 HBX HI3 HB3
      generalize w3.drew = Wd at hS HRd HOw HKd hBd ⊢
      clear HD k3
      have c2 := (unhide HRd).c 2 (v := .slice oa l.length oc) rfl
      refine wpAnyH_take (i := 0) (v := .pointer (some ⟨g, 0, none⟩)) rfl (by kernel_rfl) (by kernel_rfl) (by kernel_rfl) (fun _ _ _ h => h) (Or.inl ⟨by rfl, fun w _ => by go_simp⟩) hS ?_
      refine wpAnyH_take (i := 1) (v := .pointer (some ⟨g, 0, none⟩)) rfl (by kernel_rfl) (by kernel_rfl) (by kernel_rfl) (fun _ _ _ h => h) (Or.inl ⟨by rfl, fun w _ => by go_simp⟩) hS ?_
      go_simp
      refine wpAnyH_take (i := 2) (v := .pointer (some ⟨g, 0, none⟩)) rfl (by kernel_rfl) (by kernel_rfl) (by kernel_rfl) (fun _ _ _ h => h) (Or.inl ⟨by rfl, fun w _ => by go_simp⟩) hS ?_
      refine wpAnyH_take (i := 3) (v := .pointer (some ⟨g, 2, none⟩)) rfl (by kernel_rfl) (by kernel_rfl) (by kernel_rfl) (fun _ _ _ h => h) (Or.inl ⟨by rfl, fun w _ => by go_simp⟩) hS ?_
      go_simp
      refine wpAnyH_take (i := 5) (v := .agg #[.int .i64 0, .int .u8 (op : Int), .int .i64 a, .int .i64 b]) rfl (by kernel_rfl) (by kernel_rfl) (by kernel_rfl) (fun _ _ _ h => h) (yieldsIf_load_mid (by rfl) 72 _ rfl bx 0 rfl _ _ (fun _ h => box_rangeA h) Tryz.underlying72 rfl (by kernel_rfl)) hS ?_
      go_simp
      refine wpAnyH_ready (rs := [4, 6]) (by kernel_rfl) (by simp) ?_
      refine (AllReadyH.cons rfl (fun K hK => ?_) (AllReadyH.cons rfl (fun K hK => ?_) AllReadyH.nil))
      · go_simp
        refine hK.out _ _ hS (fun hS1 => ?_)
        clear hK K
        refine wpAnyH_ready (rs := [6]) (by kernel_rfl) (by simp) ?_
        refine (AllReadyH.cons rfl (fun K hK => ?_) AllReadyH.nil)
        go_simp
        have HSA : Hid (Bx (Wd.alloc (.cells #[.int .i64 0, .int .u8 (op : Int), .int .i64 a, .int .i64 b] 72)) bx 72 #[.int .i64 0, .int .u8 (op : Int), .int .i64 a, .int .i64 b]) := hide (Bx.below hS ((Below.refl Wd.heap.size Wd).alloc (Nat.le_refl _) _))
        refine hK.out _ _ (unhide HSA) (fun hS2 => ?_)
        have hSS := hS
        have HOd : Hid (World.ownsRow (Wd.alloc (.cells #[.int .i64 0, .int .u8 (op : Int), .int .i64 a, .int .i64 b] 72)) B 72 4 (.slice oa l.length oc) l.length (xvals l)) := hide (World.ownsRow.alloc (unhide HOw) _)
        clear hK K
        refine wpAnyH_ready (rs := [7]) (by kernel_rfl) (by simp) ?_
        refine AllReadyH.cons rfl (fun K hK => ?_) AllReadyH.nil
        rw [if_pos (by rfl)]
        refine wp_append_lies (w := (Wd.alloc (.cells #[.int .i64 0, .int .u8 (op : Int), .int .i64 a, .int .i64 b] 72))) _ _ 50 (by rfl) B 72 i0 _ 4 32 Tryz.underlying50 hi0 hz0 hz1 hz2 rfl (by omega) (.slice oa l.length oc) l.length (xvals l) (by rfl) (unhide HOd) ⟨Wd.heap.size, 0, none⟩ 1 1 (xcells ⟨0, op, a, b⟩) (by rfl) (by rfl) (World.news_of_block (cs := (xcells ⟨0, op, a, b⟩).toArray) (t := 72) (fr := (0, 0)) (heap_alloc_new Wd _)) (by intro u hu; simp [xcells] at hu; rcases hu with rfl | rfl | rfl | rfl <;> rfl) (by omega) (by unfold maxLen; omega) (by omega) (by simp; omega) (Wd.heap.size + 1) (by simp) ?_
        intro g3 cap3 w3 hown hgrow hat hlt3
        have HBX3 : Hid (Bx w3 bx 72 #[.int .i64 0, .int .u8 (op : Int), .int .i64 a, .int .i64 b]) := hide (Bx.grown (Bx.below hSS ((Below.refl Wd.heap.size Wd).alloc (Nat.le_refl _) _)) hgrow (unhide HNO))
        have HR3' : Hid (Bx w3 g 53 #[.map (some mo), .map (some ml), .slice oa l.length oc, .int .i64 size, vj]) := hide (Bx.grown (Bx.below (unhide HRd) ((Below.refl Wd.heap.size Wd).alloc (Nat.le_refl _) _)) hgrow (unhide HNR))
        have HKA : Hid (Kq B [72, 53] [] w w3) := hide (((unhide HKd).trans (Kq.of_below ((Below.refl Wd.heap.size Wd).alloc (Nat.le_refl _) _) hBd)).trans (Kq.of_grown hgrow (by simp; omega) (fun k hk => by obtain ⟨h1, cs, t, fr, h2, h3⟩ := own_blockA (unhide HOd) k hk; exact ⟨h1, Or.inr ⟨cs, t, fr, h2, by simp at h3; simp [h3]⟩⟩)))
        have k2 := (unhide HR3').c 2 (v := .slice oa l.length oc) rfl
        have f2 := (unhide HR3').f 2
        have HR4 : Hid (Bx (w3.setCell ⟨g, 2, none⟩ (.slice (some ⟨g3, 0, none⟩) (l.length + 1) cap3)) g 53 #[.map (some mo), .map (some ml), .slice (some ⟨g3, 0, none⟩) (l.length + 1) cap3, .int .i64 size, vj]) := hide ((unhide HR3').set 2 _ rfl)
        have HBX4 : Hid (Bx (w3.setCell ⟨g, 2, none⟩ (.slice (some ⟨g3, 0, none⟩) (l.length + 1) cap3)) bx 72 #[.int .i64 0, .int .u8 (op : Int), .int .i64 a, .int .i64 b]) := hide ((unhide HBX3).other _ _ (unhide HGB))
        have HK4 := hide ((unhide HKA).trans (Kq.set (gs := []) (unhide HR3') (unhide HBg) (by simp) 2 (.slice (some ⟨g3, 0, none⟩) (l.length + 1) cap3)))
        have HO4 : Hid (OwnX (w3.setCell ⟨g, 2, none⟩ (.slice (some ⟨g3, 0, none⟩) (l.length + 1) cap3)) B (.slice (some ⟨g3, 0, none⟩) (l.length + 1) cap3) (l ++ [⟨0, op, a, b⟩])) := hide (own_snoc hown (unhide HR3') (by decide))
        refine hK.out _ _ (unhide HBX3) (fun hS7 => ?_)
        clear hK K hown hgrow hat hlt3
        refine wpAnyH_take (i := 8) (v := .pointer (some ⟨g, 0, none⟩)) rfl (by kernel_rfl) (by kernel_rfl) (by kernel_rfl) (fun _ _ _ h => h) (Or.inl ⟨by rfl, fun w _ => by go_simp⟩) hS7 ?_
        refine wpAnyH_take (i := 9) (v := .pointer (some ⟨g, 2, none⟩)) rfl (by kernel_rfl) (by kernel_rfl) (by kernel_rfl) (fun _ _ _ h => h) (Or.inl ⟨by rfl, fun w _ => by go_simp⟩) hS7 ?_
        refine wpAnyH_ready (rs := [10]) (by kernel_rfl) (by simp) ?_
        refine (AllReadyH.cons rfl (fun K hK => ?_) AllReadyH.nil)
        go_simp
        refine hK.out _ _ (unhide HBX4) (fun hS8 => ?_)
        clear hK K
        refine wpAnyH_done (by kernel_rfl) ?_ _
        go_wp2_with fail
        go_meet
        exact ⟨_, HR4, HO4, HK4⟩
      · go_simp
        have HSA : Hid (Bx (Wd.alloc (.cells #[.int .i64 0, .int .u8 (op : Int), .int .i64 a, .int .i64 b] 72)) bx 72 #[.int .i64 0, .int .u8 (op : Int), .int .i64 a, .int .i64 b]) := hide (Bx.below hS ((Below.refl Wd.heap.size Wd).alloc (Nat.le_refl _) _))
        have ca2 := ((unhide HRd).below ((Below.refl Wd.heap.size Wd).alloc (Nat.le_refl _) (.cells #[.int .i64 0, .int .u8 (op : Int), .int .i64 a, .int .i64 b] 72))).c 2 (v := .slice oa l.length oc) rfl
        refine hK.out _ _ (unhide HSA) (fun hS1 => ?_)
        have hSS := hS
        clear hK K
        refine wpAnyH_ready (rs := [4]) (by kernel_rfl) (by simp) ?_
        refine (AllReadyH.cons rfl (fun K hK => ?_) AllReadyH.nil)
        go_simp
        refine hK.out _ _ (unhide HSA) (fun hS2 => ?_)
        have HOd : Hid (World.ownsRow (Wd.alloc (.cells #[.int .i64 0, .int .u8 (op : Int), .int .i64 a, .int .i64 b] 72)) B 72 4 (.slice oa l.length oc) l.length (xvals l)) := hide (World.ownsRow.alloc (unhide HOw) _)
        clear hK K
        refine wpAnyH_ready (rs := [7]) (by kernel_rfl) (by simp) ?_
        refine AllReadyH.cons rfl (fun K hK => ?_) AllReadyH.nil
        rw [if_pos (by rfl)]
        refine wp_append_lies (w := (Wd.alloc (.cells #[.int .i64 0, .int .u8 (op : Int), .int .i64 a, .int .i64 b] 72))) _ _ 50 (by rfl) B 72 i0 _ 4 32 Tryz.underlying50 hi0 hz0 hz1 hz2 rfl (by omega) (.slice oa l.length oc) l.length (xvals l) (by rfl) (unhide HOd) ⟨Wd.heap.size, 0, none⟩ 1 1 (xcells ⟨0, op, a, b⟩) (by rfl) (by rfl) (World.news_of_block (cs := (xcells ⟨0, op, a, b⟩).toArray) (t := 72) (fr := (0, 0)) (heap_alloc_new Wd _)) (by intro u hu; simp [xcells] at hu; rcases hu with rfl | rfl | rfl | rfl <;> rfl) (by omega) (by unfold maxLen; omega) (by omega) (by simp; omega) (Wd.heap.size + 1) (by simp) ?_
        intro g3 cap3 w3 hown hgrow hat hlt3
        have HBX3 : Hid (Bx w3 bx 72 #[.int .i64 0, .int .u8 (op : Int), .int .i64 a, .int .i64 b]) := hide (Bx.grown (Bx.below hSS ((Below.refl Wd.heap.size Wd).alloc (Nat.le_refl _) _)) hgrow (unhide HNO))
        have HR3' : Hid (Bx w3 g 53 #[.map (some mo), .map (some ml), .slice oa l.length oc, .int .i64 size, vj]) := hide (Bx.grown (Bx.below (unhide HRd) ((Below.refl Wd.heap.size Wd).alloc (Nat.le_refl _) _)) hgrow (unhide HNR))
        have HKA : Hid (Kq B [72, 53] [] w w3) := hide (((unhide HKd).trans (Kq.of_below ((Below.refl Wd.heap.size Wd).alloc (Nat.le_refl _) _) hBd)).trans (Kq.of_grown hgrow (by simp; omega) (fun k hk => by obtain ⟨h1, cs, t, fr, h2, h3⟩ := own_blockA (unhide HOd) k hk; exact ⟨h1, Or.inr ⟨cs, t, fr, h2, by simp at h3; simp [h3]⟩⟩)))
        have k2 := (unhide HR3').c 2 (v := .slice oa l.length oc) rfl
        have f2 := (unhide HR3').f 2
        have HR4 : Hid (Bx (w3.setCell ⟨g, 2, none⟩ (.slice (some ⟨g3, 0, none⟩) (l.length + 1) cap3)) g 53 #[.map (some mo), .map (some ml), .slice (some ⟨g3, 0, none⟩) (l.length + 1) cap3, .int .i64 size, vj]) := hide ((unhide HR3').set 2 _ rfl)
        have HBX4 : Hid (Bx (w3.setCell ⟨g, 2, none⟩ (.slice (some ⟨g3, 0, none⟩) (l.length + 1) cap3)) bx 72 #[.int .i64 0, .int .u8 (op : Int), .int .i64 a, .int .i64 b]) := hide ((unhide HBX3).other _ _ (unhide HGB))
        have HK4 := hide ((unhide HKA).trans (Kq.set (gs := []) (unhide HR3') (unhide HBg) (by simp) 2 (.slice (some ⟨g3, 0, none⟩) (l.length + 1) cap3)))
        have HO4 : Hid (OwnX (w3.setCell ⟨g, 2, none⟩ (.slice (some ⟨g3, 0, none⟩) (l.length + 1) cap3)) B (.slice (some ⟨g3, 0, none⟩) (l.length + 1) cap3) (l ++ [⟨0, op, a, b⟩])) := hide (own_snoc hown (unhide HR3') (by decide))
        refine hK.out _ _ (unhide HBX3) (fun hS7 => ?_)
        clear hK K hown hgrow hat hlt3
        refine wpAnyH_take (i := 8) (v := .pointer (some ⟨g, 0, none⟩)) rfl (by kernel_rfl) (by kernel_rfl) (by kernel_rfl) (fun _ _ _ h => h) (Or.inl ⟨by rfl, fun w _ => by go_simp⟩) hS7 ?_
        refine wpAnyH_take (i := 9) (v := .pointer (some ⟨g, 2, none⟩)) rfl (by kernel_rfl) (by kernel_rfl) (by kernel_rfl) (fun _ _ _ h => h) (Or.inl ⟨by rfl, fun w _ => by go_simp⟩) hS7 ?_
        refine wpAnyH_ready (rs := [10]) (by kernel_rfl) (by simp) ?_
        refine (AllReadyH.cons rfl (fun K hK => ?_) AllReadyH.nil)
        go_simp
        refine hK.out _ _ (unhide HBX4) (fun hS8 => ?_)
        clear hK K
        refine wpAnyH_done (by kernel_rfl) ?_ _
        go_wp2_with fail
        go_meet
        exact ⟨_, HR4, HO4, HK4⟩
    case rest =>
    obtain ⟨vl', HR4, HO4, HK4⟩ := hcut
    clear HR3 HO3 HK3 HBX HI3 HB3 k3
    have k3 := (unhide HR4).c 3 (v := .int .i64 size) rfl
    have f3 := (unhide HR4).f 3
    have HR5 : Hid (Bx (wc.setCell ⟨g, 3, none⟩ (.int .i64 (size + ((eL op a b).length : Int)))) g 53 (rdC mo ml vl' (size + ((eL op a b).length : Int)) vj)) := hide ((unhide HR4).set 3 _ rfl)
    have HK5 := hide ((unhide HK4).trans (Kq.set (gs := []) (unhide HR4) (unhide HBg) (by simp) 3 (.int .i64 (size + ((eL op a b).length : Int)))))
    have HO5 : Hid (OwnX (wc.setCell ⟨g, 3, none⟩ (.int .i64 (size + ((eL op a b).length : Int)))) B vl' (l ++ [⟨0, op, a, b⟩])) := hide (own_kq (unhide HO4) (Kq.set (B := 0) (ts := [53]) (gs := []) (unhide HR4) (Nat.zero_le _) (by simp) 3 _) (by simp) (by simp))
    have HJ := hide j1
    go_wp2_with fail
    go_ret
    unfold PutIs
    rw [if_neg (by rw [unhide HNE]; simp), if_neg (by have := unhide HJ; omega)]
    exact ⟨rfl, vl', unhide HR5, unhide HO5, unhide HK5⟩
end Go.Proofs.YthdgbdjagjagpaaGreatDoor

/-
  A text's lines and a line's words, as plain lists: what Split and FieldsFunc tell. No Go in it.
-/
namespace Go.Proofs.YthdgbdjagjagpaaGreatDoor
open Go.Lib
set_option maxRecDepth 20000
set_option linter.unusedVariables false
def fldL : List UInt8 → List UInt8 → List (List UInt8)
  | cur, [] => if cur = [] then [] else [cur]
  | cur, c :: r => if blk c.toNat then (if cur = [] then fldL [] r else cur :: fldL [] r) else fldL (cur ++ [c]) r
theorem fldL_more : ∀ (A cur r : List UInt8), (∀ c ∈ A, blk c.toNat = false) → fldL cur (A ++ r) = fldL (cur ++ A) r
  | [], cur, r, _ => by simp
  | c :: A, cur, r, h => by
    have hc := h c List.mem_cons_self
    rw [List.cons_append, fldL, hc, if_neg (by decide), fldL_more A (cur ++ [c]) r (fun x hx => h x (List.mem_cons_of_mem _ hx))]
    simp
theorem blk_128 {n : Nat} (h : 128 ≤ n) : blk n = false := by unfold blk; rw [decide_eq_false (by omega), decide_eq_false (by omega)]; rfl
theorem decN_blk (n b0 b1 b2 b3 : Nat) : blk (decodeN n b0 b1 b2 b3).1 = blk b0 ∧ ((decodeN n b0 b1 b2 b3).2 = 1 ∨ 128 ≤ b0 ∧ (decodeN n b0 b1 b2 b3).2 = 2 ∧ 1 < n ∧ 128 ≤ b1 ∨ 128 ≤ b0 ∧ (decodeN n b0 b1 b2 b3).2 = 3 ∧ 2 < n ∧ 128 ≤ b1 ∧ 128 ≤ b2 ∨ 128 ≤ b0 ∧ (decodeN n b0 b1 b2 b3).2 = 4 ∧ 3 < n ∧ 128 ≤ b1 ∧ 128 ≤ b2 ∧ 128 ≤ b3) := by
  unfold decodeN
  split
  · exact ⟨rfl, Or.inl rfl⟩
  · rename_i h0
    have hb : blk b0 = false := blk_128 (by omega)
    rw [hb]
    repeat' split
    all_goals (refine ⟨blk_128 (by simp only; omega), ?_⟩; simp; try omega)
theorem dec_piece (s : ByteArray) (pos : Nat) (hp : pos < s.size) : blk (Utf8.decode s pos).1 = blk (s.data.toList.getD pos 0).toNat ∧ (blk (Utf8.decode s pos).1 = true → (Utf8.decode s pos).2 = 1) ∧ (blk (Utf8.decode s pos).1 = false → ∀ c ∈ (s.data.toList.drop pos).take (Utf8.decode s pos).2, blk c.toNat = false) ∧ pos + (Utf8.decode s pos).2 ≤ s.size := by
  rw [decode_N]
  have hs := size_eq s
  have hl : pos < s.data.toList.length := by omega
  obtain ⟨h1, h2⟩ := decN_blk (s.data.toList.length - pos) (s.data.toList.getD pos 0).toNat (s.data.toList.getD (pos + 1) 0).toNat (s.data.toList.getD (pos + 2) 0).toNat (s.data.toList.getD (pos + 3) 0).toNat
  generalize decodeN (s.data.toList.length - pos) (s.data.toList.getD pos 0).toNat (s.data.toList.getD (pos + 1) 0).toNat (s.data.toList.getD (pos + 2) 0).toNat (s.data.toList.getD (pos + 3) 0).toNat = d at h1 h2
  rw [hs]
  generalize s.data.toList = l at *
  refine ⟨h1, fun hb => ?_, fun hb c hc => ?_, ?_⟩
  · rcases h2 with h | ⟨h, _⟩ | ⟨h, _⟩ | ⟨h, _⟩
    · exact h
    all_goals (rw [h1, blk_128 h] at hb; cases hb)
  · obtain ⟨j, hj, rfl⟩ := List.mem_iff_getElem.1 hc
    have hj' : j < d.2 := by simp at hj; omega
    have hjl : pos + j < l.length := by simp at hj; omega
    have e : ((l.drop pos).take d.2)[j] = l.getD (pos + j) 0 := by simp [List.getD, List.getElem?_eq_getElem hjl]
    rw [e]
    by_cases h0 : j = 0
    · subst h0; rw [Nat.add_zero, ← h1]; exact hb
    · rcases h2 with h | ⟨_, h, _, k1⟩ | ⟨_, h, _, k1, k2⟩ | ⟨_, h, _, k1, k2, k3⟩
      · omega
      · obtain rfl : j = 1 := by omega
        exact blk_128 k1
      · rcases (by omega : j = 1 ∨ j = 2) with rfl | rfl
        · exact blk_128 k1
        · exact blk_128 k2
      · rcases (by omega : j = 1 ∨ j = 2 ∨ j = 3) with rfl | rfl | rfl
        · exact blk_128 k1
        · exact blk_128 k2
        · exact blk_128 k3
  · omega
theorem spansP_eq (s : ByteArray) : ∀ (f pos : Nat) (st : Option Nat) (acc : List (Nat × Nat)), s.size ≤ pos + f → pos ≤ s.size → (∀ a, st = some a → a < pos) →
    acc.map (fun p => pieceU s.data.toList p.1 p.2) ++ fldL (openPiece s.data.toList st pos) (s.data.toList.drop pos) = (closeSpans s (spansFromP blk s f pos st acc)).map (fun p => pieceU s.data.toList p.1 p.2) := by
  have key : ∀ (f pos : Nat) (st : Option Nat) (acc : List (Nat × Nat)), ¬ pos < s.size → pos ≤ s.size → (∀ a, st = some a → a < pos) →
    acc.map (fun p => pieceU s.data.toList p.1 p.2) ++ fldL (openPiece s.data.toList st pos) (s.data.toList.drop pos) = (closeSpans s (spansFromP blk s f pos st acc)).map (fun p => pieceU s.data.toList p.1 p.2) := by
    intro f pos st acc hlt hp hst
    obtain rfl : pos = s.size := by omega
    have hd : s.data.toList.drop s.size = [] := List.drop_eq_nil_of_le (by rw [← size_eq]; exact Nat.le_refl _)
    rw [hd, fldL, spansFromP_end blk s _ _ _ _ hlt]
    cases st with
    | none => simp [closeSpans, openPiece]
    | some a =>
      have := pieceU_ne s.data.toList a s.size (hst a rfl) (by rw [← size_eq]; exact Nat.le_refl _)
      simp [closeSpans, openPiece, this]
  intro f
  induction f with
  | zero => exact fun pos st acc h hp hst => key 0 pos st acc (by omega) hp hst
  | succ f ih =>
    intro pos st acc h hp hst
    by_cases hlt : pos < s.size
    · obtain ⟨d1, d2, d3, d4⟩ := dec_piece s pos hlt
      have hw := width_pos s pos
      have hl : pos < s.data.toList.length := by rw [← size_eq]; exact hlt
      simp only [spansFromP, if_pos hlt]
      cases hsp : blk (Utf8.decode s pos).1 with
      | true =>
        have h1 := d2 hsp
        rw [h1] at hw d4 ⊢
        have e : s.data.toList.drop pos = s.data.toList.getD pos 0 :: s.data.toList.drop (pos + 1) := by
          rw [List.drop_eq_getElem_cons hl]; simp [List.getD, List.getElem?_eq_getElem hl]
        rw [e, fldL, ← d1, hsp, if_pos rfl]
        simp only [if_true]
        cases st with
        | none =>
          have ih := ih (pos + 1) none acc (by omega) d4 (fun a h => by cases h)
          simpa [openPiece] using ih
        | some a =>
          have hpn := pieceU_ne s.data.toList a pos (hst a rfl) (by rw [← size_eq]; omega)
          have ih := ih (pos + 1) none (acc ++ [(a, pos)]) (by omega) d4 (fun a h => by cases h)
          simpa [openPiece, hpn] using ih
      | false =>
        have h3 := d3 hsp
        have e : s.data.toList.drop pos = (s.data.toList.drop pos).take (Utf8.decode s pos).2 ++ s.data.toList.drop (pos + (Utf8.decode s pos).2) := by
          rw [← List.drop_drop, List.take_append_drop]
        rw [e, fldL_more _ _ _ h3]
        simp only [Bool.false_eq_true, if_false]
        cases st with
        | none =>
          have ih := ih (pos + (Utf8.decode s pos).2) (some pos) acc (by omega) d4 (fun a h => by cases h; omega)
          have e : ([] : List UInt8) ++ (s.data.toList.drop pos).take (Utf8.decode s pos).2 = pieceU s.data.toList pos (pos + (Utf8.decode s pos).2) := by
            unfold pieceU
            rw [List.nil_append, Nat.add_sub_cancel_left]
          simp only [openPiece] at ih ⊢
          rw [e]
          exact ih
        | some a =>
          have ih := ih (pos + (Utf8.decode s pos).2) (some a) acc (by omega) d4 (fun b h => by cases h; have := hst a rfl; omega)
          simp only [openPiece] at ih ⊢
          rw [pieceU_grow _ _ _ _ (Nat.le_of_lt (hst a rfl))]
          exact ih
    · exact key _ _ _ _ hlt hp hst
theorem ext_piece (s : ByteArray) (a b : Nat) : (s.extract a b).data.toList = pieceU s.data.toList a b := by
  rw [extract_data]
  unfold pieceU
  rw [← List.drop_take]
theorem fields_eq (s : ByteArray) : (goFieldsP blk s).map (·.data.toList) = fldL [] s.data.toList := by
  have h := spansP_eq s s.size 0 none [] (by omega) (by omega) (fun a h => by cases h)
  simp only [List.map_nil, List.nil_append, openPiece, List.drop_zero] at h
  rw [h]
  unfold goFieldsP spansOfP
  rw [List.map_map]
  apply List.map_congr_left
  intro x _
  exact ext_piece s x.1 x.2

/-- A text's lines. -/
def splL : List UInt8 → List (List UInt8)
  | [] => [[]]
  | c :: r => if c = 10 then [] :: splL r else match splL r with | [] => [[c]] | x :: t => (c :: x) :: t
theorem splL_ne (l : List UInt8) : splL l ≠ [] := by
  cases l with
  | nil => simp [splL]
  | cons c r => unfold splL; split; · simp
                split <;> simp
theorem splL_none : ∀ {l : List UInt8}, (10 : UInt8) ∉ l → splL l = [l]
  | [], _ => rfl
  | c :: r, h => by
    have h1 : ¬ c = 10 := fun e => h (by simp [e])
    rw [splL, if_neg h1, splL_none (fun e => h (List.mem_cons_of_mem _ e))]
theorem splL_hit : ∀ {A B : List UInt8}, (10 : UInt8) ∉ A → splL (A ++ 10 :: B) = A :: splL B
  | [], B, _ => by simp [splL]
  | c :: A, B, h => by
    have h1 : ¬ c = 10 := fun e => h (by simp [e])
    rw [List.cons_append, splL, if_neg h1, splL_hit (fun e => h (List.mem_cons_of_mem _ e))]
theorem occ_one (l : List UInt8) (c : UInt8) (j : Nat) : occAt l [c] j = decide (l[j]? = some c) := by
  unfold occAt
  cases h : l[j]? with
  | none =>
    rw [List.drop_eq_nil_of_le (List.getElem?_eq_none_iff.1 h)]
    simp
  | some x =>
    obtain ⟨hj, rfl⟩ := List.getElem?_eq_some_iff.1 h
    rw [List.drop_eq_getElem_cons hj]
    simp only [List.isPrefixOf, Bool.and_true]
    by_cases e : c = l[j]
    · rw [e]; simp
    · have : ¬ l[j] = c := fun h => e h.symm
      simp [e, this]
theorem index_cases (l : List UInt8) (c : UInt8) : (index l [c] = -1 ∧ c ∉ l) ∨ ∃ i : Nat, index l [c] = i ∧ c ∉ l.take i ∧ l = l.take i ++ c :: l.drop (i + 1) := by
  rcases index_spec l [c] with ⟨h1, h2⟩ | ⟨i, h1, h2, h3, h4⟩
  · refine Or.inl ⟨h1, fun hm => ?_⟩
    obtain ⟨j, hj, e⟩ := List.mem_iff_getElem.1 hm
    have := h2 j (by omega)
    rw [occ_one, List.getElem?_eq_getElem hj, e] at this
    simp at this
  · refine Or.inr ⟨i, h1, ?_, ?_⟩
    · intro hm
      obtain ⟨j, hj, e⟩ := List.mem_iff_getElem.1 hm
      have hj2 : j < i := by simp at hj; omega
      have hjl : j < l.length := by simp at hj; omega
      have h5 := h4 j hj2
      rw [occ_one, List.getElem?_eq_getElem hjl] at h5
      simp only [List.getElem_take] at e
      rw [e] at h5
      simp at h5
    · rw [occ_one] at h3
      have h6 := of_decide_eq_true h3
      obtain ⟨hi, e⟩ := List.getElem?_eq_some_iff.1 h6
      conv => lhs; rw [← List.take_append_drop i l, List.drop_eq_getElem_cons hi, e]
theorem splitK_eq : ∀ (n : Nat) (l : List UInt8), l.length ≤ n → splitK [10] 0 (count l [10]) l = splL l := by
  intro n
  induction n with
  | zero =>
    intro l h
    obtain rfl : l = [] := List.eq_nil_of_length_eq_zero (by omega)
    rfl
  | succ n ih =>
    intro l h
    rcases index_cases l 10 with ⟨h1, h2⟩ | ⟨i, h1, h2, h3⟩
    · rw [count_miss h1, splL_none h2]; rfl
    · have hc := count_hit (sub := [10]) (by simp) h1
      rw [hc, Nat.add_comm 1, splitK, h1, if_neg (by rw [beq_iff_eq]; omega)]
      have e : ((i : Nat) : Int).toNat = i := by omega
      have hlen : (l.drop (i + 1)).length ≤ n := by
        have hil : i < l.length := by
          refine Classical.byContradiction fun hh => ?_
          have := congrArg List.length h3
          simp at this
          omega
        simp; omega
      rw [e]
      show l.take (i + 0) :: splitK [10] 0 (count (l.drop (i + 1)) [10]) (l.drop (i + 1)) = splL l
      rw [ih _ hlen, Nat.add_zero]
      conv => rhs; rw [h3]
      rw [splL_hit h2]
theorem lines_eq (s : ByteArray) : (splitB ⟨#[10]⟩ 0 (countB s ⟨#[10]⟩) s).map (·.data.toList) = splL s.data.toList := by
  rw [splitB_data]
  exact splitK_eq _ _ (Nat.le_refl _)
/-- A line without its remark. -/
def cutR : List UInt8 → List UInt8
  | [] => []
  | c :: r => if c = 59 then [] else c :: cutR r
theorem cutR_none : ∀ {l : List UInt8}, (59 : UInt8) ∉ l → cutR l = l
  | [], _ => rfl
  | c :: r, h => by
    have h1 : ¬ c = 59 := fun e => h (by simp [e])
    rw [cutR, if_neg h1, cutR_none (fun e => h (List.mem_cons_of_mem _ e))]
theorem cutR_hit : ∀ {A B : List UInt8}, (59 : UInt8) ∉ A → cutR (A ++ 59 :: B) = A
  | [], B, _ => by simp [cutR]
  | c :: A, B, h => by
    have h1 : ¬ c = 59 := fun e => h (by simp [e])
    rw [List.cons_append, cutR, if_neg h1, cutR_hit (fun e => h (List.mem_cons_of_mem _ e))]
theorem cut_eq (l : List UInt8) : (cut l [59]).1 = cutR l := by
  unfold cut
  rcases index_cases l 59 with ⟨h1, h2⟩ | ⟨i, h1, h2, h3⟩
  · rw [h1, if_neg (by decide), cutR_none h2]
  · rw [h1, if_pos (by omega)]
    have e : ((i : Nat) : Int).toNat = i := by omega
    rw [e]
    conv => rhs; rw [h3]
    rw [cutR_hit h2]
/-- A line's words. -/
def wrdL (l : List UInt8) : List (List UInt8) := fldL [] (cutR l)
end Go.Proofs.YthdgbdjagjagpaaGreatDoor

/-
  asm's reader as a total function on a plain state: what a line's words do; where the jumps lead. No Go in it, but for how its maps read.
-/
namespace Go.Proofs.YthdgbdjagjagpaaGreatDoor
open Go.RowKit Go.Maps Go.WideMaps
set_option maxRecDepth 20000
set_option linter.unusedVariables false
set_option linter.unusedSimpArgs false

structure Jm where
  line : Nat
  place : Nat
  name : ByteArray
structure Rs where
  labs : List (ByteArray × Nat)
  list : List Ix
  size : Nat
  jumps : List Jm
def findLb : List (ByteArray × Nat) → ByteArray → Option Nat
  | [], _ => none
  | x :: l, s => if x.1.data.toList = s.data.toList then some x.2 else findLb l s
def putS (st : Rs) (op : Nat) (a b : Int) : Int × Rs :=
  if eE op a b ≠ 0 then (eE op a b, st) else if 4096 < st.size + (eL op a b).length then (4, st) else (0, { st with list := st.list ++ [⟨0, op, a, b⟩], size := st.size + (eL op a b).length })
def nameS (st : Rs) (s : ByteArray) : Int × Rs := if (findLb st.labs s).isSome then (230, st) else (0, { st with labs := st.labs ++ [(s, st.size)] })
def jumpS (st : Rs) (line op : Nat) (s : ByteArray) : Int × Rs := if nameB s then putS { st with jumps := st.jumps ++ [⟨line, st.list.length, s⟩] } op 0 0 else (231, st)
def valAt (ws : List ByteArray) (k : Nat) : Int := match ws[k]? with | some s => valN s | none => 0
def plainS (st : Rs) (op : Nat) (ws : List ByteArray) : Int × Rs := if ws.all numB then putS st op (valAt ws 0) (valAt ws 1) else (231, st)
def readS (st : Rs) (line : Nat) : List ByteArray → Int × Rs
  | [] => (0, st)
  | w :: r =>
    if (colB w && decide ((w :: r).length = 1) && nameB (stripB w)) = true then nameS st (stripB w)
    else if (opD w).2 = false ∨ r.length ≠ opnN (opD w).1 then (231, st)
    else if jmpN (opD w).1 = true then jumpS st line (opD w).1 (r.getD 0 ⟨#[]⟩)
    else plainS st (opD w).1 r
theorem readS_cons (st : Rs) (line : Nat) (w : ByteArray) (r : List ByteArray) : readS st line (w :: r) = if (colB w && decide ((w :: r).length = 1) && nameB (stripB w)) = true then nameS st (stripB w)
    else if (opD w).2 = false ∨ r.length ≠ opnN (opD w).1 then (231, st)
    else if jmpN (opD w).1 = true then jumpS st line (opD w).1 (r.getD 0 ⟨#[]⟩)
    else plainS st (opD w).1 r := rfl
/-- Lines from number i on: the fault's line and number, or the state. -/
def goS : List (List ByteArray) → Nat → Rs → Nat × Int × Rs
  | [], _, st => (0, 0, st)
  | ws :: t, i, st => if (readS st i ws).1 ≠ 0 then (i, (readS st i ws).1, (readS st i ws).2) else goS t (i + 1) (readS st i ws).2
def setA (l : List Ix) (k : Nat) (a : Int) : List Ix := l.modify k fun x => { x with a := a }
def leadS (labs : List (ByteArray × Nat)) (size : Nat) : List Jm → List Ix → Nat × Int × List Ix
  | [], l => (0, 0, l)
  | j :: t, l => match findLb labs j.name with
    | none => (j.line, 230, l)
    | some tt => if tt = size then (j.line, 230, l) else leadS labs size t (setA l j.place (tt : Int))
/-- What Parse answers: bytes, line, number. -/
def finL (r : Nat × Int × List Ix) : List UInt8 × Nat × Int := if r.2.1 ≠ 0 then ([], r.1, r.2.1) else alD r.2.2 0 []
def finG (r : Nat × Int × Rs) : List UInt8 × Nat × Int := if r.2.1 ≠ 0 then ([], r.1, r.2.1) else finL (leadS r.2.2.labs r.2.2.size r.2.2.jumps r.2.2.list)
def parS (s : ByteArray) : List UInt8 × Nat × Int :=
  if 65536 < s.size then ([], 0, 4) else finG (goS (((splL s.data.toList).map wrdL).map fun l => l.map fun x => ⟨x.toArray⟩) 1 ⟨[], [], 0, []⟩)

/-- How the map of labels reads. -/
def LabD (D : DataW Unit) (L : List (ByteArray × Nat)) : Prop := ∀ s : ByteArray, Maps.has D (.string s.data.toList) = (findLb L s).isSome ∧ ∀ n, findLb L s = some n → ∀ z, D.atKey (.string s.data.toList) z = .lit (.int .i64 (n : Int))
theorem labD_nil : LabD (.map []) [] := fun s => ⟨rfl, fun n h => by cases h⟩
theorem findLb_app (L : List (ByteArray × Nat)) (s : ByteArray) (n : Nat) (t : ByteArray) : findLb (L ++ [(s, n)]) t = match findLb L t with | some k => some k | none => if s.data.toList = t.data.toList then some n else none := by
  induction L with
  | nil => simp [findLb]
  | cons x L ih =>
    rw [List.cons_append, findLb, findLb]
    split
    · rfl
    · exact ih
theorem LabD.put {D : DataW Unit} {L : List (ByteArray × Nat)} (h : LabD D L) (hD : IsMap D) (s : ByteArray) (n : Nat) (hn : findLb L s = none) : LabD (D.put (.string s.data.toList) (.lit (.int .i64 (n : Int)))) (L ++ [(s, n)]) := fun t => by
  rw [findLb_app]
  by_cases e : s.data.toList = t.data.toList
  · have hnt : findLb L t = none := by
      have : ∀ L : List (ByteArray × Nat), findLb L t = findLb L s := by
        intro L
        induction L with
        | nil => rfl
        | cons x L ih => simp [findLb, e, ih]
      rw [this]; exact hn
    rw [hnt, if_pos e, ← e]
    refine ⟨has_put_same hD (show WideAt.IsKeyLit (.string s.data.toList) from trivial) _, fun k hk z => ?_⟩
    cases hk
    exact atKey_put_same hD (show WideAt.IsKeyLit (.string s.data.toList) from trivial) _ z
  · have hne : (Lit.string t.data.toList) ≠ Lit.string s.data.toList := by intro h2; injection h2 with h2; exact e h2.symm
    rw [if_neg e, has_put_other hne, (h t).1]
    refine ⟨by cases findLb L t <;> rfl, fun k hk z => ?_⟩
    rw [atKey_put_other hne]
    refine (h t).2 k ?_ z
    cases hf : findLb L t with
    | none => rw [hf] at hk; cases hk
    | some x => rw [hf] at hk; exact hk
/-- How the map of instructions reads when k of them have been laid. -/
def OpsD (D : DataW Unit) (k : Nat) : Prop := ∀ s : ByteArray, Maps.has D (.string s.data.toList) = ((opD s).2 && decide ((opD s).1 < k)) ∧ (((opD s).2 && decide ((opD s).1 < k)) = true → ∀ z, D.atKey (.string s.data.toList) z = .lit (.int .u8 ((opD s).1 : Int)))
theorem opsD_nil : OpsD (.map []) 0 := fun s => ⟨by simp [Maps.has], fun h => by simp at h⟩
theorem findW_text (s t : ByteArray) (h : s.data.toList = t.data.toList) : ∀ (l : List ByteArray) (i : Nat), findW l s i = findW l t i
  | [], _ => rfl
  | x :: l, i => by
    have e : s.toList = t.toList := by rw [ByteArray.toList_eq, ByteArray.toList_eq, h]
    rw [findW, findW, e, findW_text s t h l]
theorem findW_hit (s : ByteArray) : ∀ (l : List ByteArray) (i : Nat), (findW l s i).2 = true → i ≤ (findW l s i).1 ∧ ∃ x, l[(findW l s i).1 - i]? = some x ∧ x.data.toList = s.data.toList
  | [], i, h => by simp [findW] at h
  | x :: l, i, h => by
    unfold findW at h ⊢
    split
    · rename_i e
      refine ⟨Nat.le_refl _, x, by simp, ?_⟩
      have := beq_iff_eq.1 e
      rw [ByteArray.toList_eq, ByteArray.toList_eq] at this
      exact this
    · rename_i e
      rw [if_neg e] at h
      obtain ⟨h1, y, h2, h3⟩ := findW_hit s l (i + 1) h
      refine ⟨by omega, y, ?_, h3⟩
      rw [← h2, show (findW l s (i + 1)).1 - i = ((findW l s (i + 1)).1 - (i + 1)) + 1 by omega]
      simp
theorem opD_hit {s : ByteArray} (h : (opD s).2 = true) : (opD s).1 < 34 ∧ (wC (opD s).1).data.toList = s.data.toList := by
  obtain ⟨_, x, h2, h3⟩ := findW_hit s wordsL 0 h
  obtain ⟨hl, e⟩ := List.getElem?_eq_some_iff.1 h2
  refine ⟨by have : wordsL.length = 34 := rfl; unfold opD; omega, ?_⟩
  unfold wC opD
  rw [List.getD_eq_getElem?_getD, show (findW wordsL s 0).1 = (findW wordsL s 0).1 - 0 by omega, h2]
  exact h3
theorem opD_wC : ∀ k, k < 34 → opD (wC k) = (k, true) := by decide +kernel
theorem OpsD.put {D : DataW Unit} {k : Nat} (h : OpsD D k) (hD : IsMap D) (hk : k < 34) : OpsD (D.put (.string (wC k).data.toList) (.lit (.int .u8 (k : Int)))) (k + 1) := fun t => by
  by_cases e : (wC k).data.toList = t.data.toList
  · have ht : opD t = (k, true) := by rw [← opD_wC k hk]; exact (findW_text _ _ e _ _).symm
    rw [ht, ← e]
    refine ⟨by rw [has_put_same hD (show WideAt.IsKeyLit (.string (wC k).data.toList) from trivial)]; simp, fun _ z => ?_⟩
    exact atKey_put_same hD (show WideAt.IsKeyLit (.string (wC k).data.toList) from trivial) _ z
  · have hne : (Lit.string t.data.toList) ≠ Lit.string (wC k).data.toList := by intro h2; injection h2 with h2; exact e h2.symm
    have hd : ((opD t).2 && decide ((opD t).1 < k + 1)) = ((opD t).2 && decide ((opD t).1 < k)) := by
      cases h2 : (opD t).2 with
      | false => rfl
      | true =>
        have h3 := opD_hit h2
        have : (opD t).1 ≠ k := fun e' => e (by rw [← h3.2, e'])
        simp only [Bool.true_and]
        by_cases h4 : (opD t).1 < k
        · rw [decide_eq_true h4, decide_eq_true (by omega)]
        · rw [decide_eq_false h4, decide_eq_false (by omega)]
    rw [hd, has_put_other hne, (h t).1]
    refine ⟨rfl, fun h5 z => ?_⟩
    rw [atKey_put_other hne]
    exact (h t).2 h5 z
theorem OpsD.all {D : DataW Unit} (h : OpsD D 34) (s : ByteArray) : Maps.has D (.string s.data.toList) = (opD s).2 ∧ ((opD s).2 = true → ∀ z, D.atKey (.string s.data.toList) z = .lit (.int .u8 ((opD s).1 : Int))) := by
  have e : ((opD s).2 && decide ((opD s).1 < 34)) = (opD s).2 := by
    cases h2 : (opD s).2 with
    | false => rfl
    | true => rw [decide_eq_true (opD_hit h2).1]; rfl
  have := h s
  rw [e] at this
  exact this
theorem nmD_wC {k : Nat} (h : k < 34) : nmD k = wC k := by unfold nmD; rw [if_pos h]
end Go.Proofs.YthdgbdjagjagpaaGreatDoor

/-
  A word's number, plainly: digits, eighteen of them at most or more. No Go in it.
-/
namespace Go.Proofs.YthdgbdjagjagpaaGreatDoor
open Go.RowKit
set_option maxRecDepth 20000
set_option linter.unusedVariables false
set_option linter.unusedSimpArgs false

def digV (acc : Nat) (l : List UInt8) : Nat := l.foldl (fun a c => a * 10 + (c.toNat - 48)) acc
theorem digV_nil (acc : Nat) : digV acc [] = acc := rfl
theorem digV_cons (acc : Nat) (c : UInt8) (r : List UInt8) : digV acc (c :: r) = digV (acc * 10 + (c.toNat - 48)) r := by unfold digV; rw [List.foldl_cons]
theorem digV_ge : ∀ (l : List UInt8) (acc : Nat), acc ≤ digV acc l
  | [], acc => Nat.le_refl _
  | c :: r, acc => by have := digV_ge r (acc * 10 + (c.toNat - 48)); rw [digV_cons]; omega
theorem digV_pow : ∀ (l : List UInt8) (acc : Nat), acc * 10 ^ l.length ≤ digV acc l
  | [], acc => by simp [digV_nil]
  | c :: r, acc => by
    have := digV_pow r (acc * 10 + (c.toNat - 48))
    rw [digV_cons, List.length_cons, Nat.pow_succ]
    refine Nat.le_trans ?_ this
    rw [Nat.add_mul, Nat.mul_assoc, Nat.mul_comm (10 ^ r.length) 10]
    omega
theorem digV_lt : ∀ (l : List UInt8) (acc : Nat), (∀ x ∈ l, isDg x) → digV acc l < (acc + 1) * 10 ^ l.length
  | [], acc, _ => by simp [digV_nil]
  | c :: r, acc, h => by
    have hc := h c List.mem_cons_self
    unfold isDg at hc
    have := digV_lt r (acc * 10 + (c.toNat - 48)) (fun x hx => h x (List.mem_cons_of_mem _ hx))
    rw [digV_cons, List.length_cons, Nat.pow_succ]
    refine Nat.lt_of_lt_of_le this ?_
    rw [Nat.mul_comm (10 ^ r.length) 10, ← Nat.mul_assoc]
    exact Nat.mul_le_mul_right _ (by omega)
theorem parse_val (l : List UInt8) : ∀ (acc : Nat), (∀ x ∈ l, isDg x) → acc < 18446744073709551616 → Lib.parseUint10 acc l = if digV acc l < 18446744073709551616 then .ok (digV acc l) else .range := by
  induction l with
  | nil => intro acc _ h; rw [Lib.parseUint10, digV_nil, if_pos h]
  | cons c r ih =>
    intro acc hd h
    have hc : 48 ≤ c.toNat ∧ c.toNat ≤ 57 := hd c List.mem_cons_self
    have hg := digV_ge r (acc * 10 + (c.toNat - 48))
    rw [Lib.parseUint10, if_pos hc, digV_cons]
    split
    · rw [if_neg (by omega)]
    · split
      · rw [if_neg (by omega)]
      · exact ih _ (fun x hx => hd x (List.mem_cons_of_mem _ hx)) (by omega)
/-- A number of more than eighteen digits. -/
def farB (s : ByteArray) : Bool := decide (18 < (trimB s).size)
def negB (s : ByteArray) : Bool := decide ((trimB s).size < s.size)
def numR (s : ByteArray) : Int := if negB s then -((digV 0 (trimB s).data.toList : Nat) : Int) else ((digV 0 (trimB s).data.toList : Nat) : Int)
theorem trim_cases (l : List UInt8) : (∃ r, l = 45 :: r ∧ Lib.trimPrefix l [45] = r) ∨ (l.head? ≠ some 45 ∧ Lib.trimPrefix l [45] = l) := by
  cases l with
  | nil => exact Or.inr ⟨by simp, rfl⟩
  | cons c r =>
    unfold Lib.trimPrefix
    by_cases h45 : c = 45
    · subst h45
      refine Or.inl ⟨r, rfl, ?_⟩
      rw [show Lib.hasPrefix (45 :: r) [45] = true by simp [Lib.hasPrefix], if_pos rfl]
      rfl
    · have hp : Lib.hasPrefix (c :: r) [45] = false := by
        show (((45 : UInt8) == c) && List.isPrefixOf [] r) = false
        rw [show ((45 : UInt8) == c) = false from beq_eq_false_iff_ne.2 (fun e => h45 e.symm)]
        rfl
      rw [hp, if_neg (by decide)]
      exact Or.inr ⟨by simp [h45], rfl⟩
theorem trim_data (s : ByteArray) : (trimB s).data.toList = Lib.trimPrefix s.data.toList [45] := by unfold trimB; simp
theorem ba_size (s : ByteArray) : s.data.toList.length = s.size := by simp
theorem numB_parts {s : ByteArray} (h : numB s = true) : (trimB s).data.toList ≠ [] ∧ (∀ x ∈ (trimB s).data.toList, isDg x) ∧ (byteAt (trimB s) 0 = 48 → zeroB s = true) := by
  unfold numB at h
  rw [Bool.and_eq_true, Bool.and_eq_true] at h
  obtain ⟨⟨h1, h2⟩, h3⟩ := h
  have h1 := of_decide_eq_true h1
  refine ⟨?_, dig_all h3, fun h0 => ?_⟩
  · intro e
    have := ba_size (trimB s)
    rw [e] at this
    simp at this
    have : (trimB s).size = 0 := by omega
    omega
  · rw [h0] at h2
    simpa using h2
theorem signed_ok (u : Nat) : Lib.signed (.ok u) = if 9223372036854775808 < u then .range else .ok (-(u : Int)) := rfl
theorem signed_range : Lib.signed .range = .range := rfl
theorem signless_ok (u : Nat) : Lib.signless (.ok u) = if 9223372036854775808 ≤ u then .range else .ok (u : Int) := rfl
theorem signless_range : Lib.signless .range = .range := rfl
/-- What Atoi makes of a word's digits. -/
theorem valN_dig {s : ByteArray} (h : numB s = true) : valN s = if negB s then (if digV 0 (trimB s).data.toList ≤ 9223372036854775808 then -((digV 0 (trimB s).data.toList : Nat) : Int) else -9223372036854775808) else (if digV 0 (trimB s).data.toList < 9223372036854775808 then ((digV 0 (trimB s).data.toList : Nat) : Int) else 9223372036854775807) := by
  obtain ⟨hne, hd, _⟩ := numB_parts h
  have hz1 := ba_size s
  have hz2 := ba_size (trimB s)
  unfold valN negB
  rw [← hz1, ← hz2]
  rw [trim_data] at hne hd ⊢
  generalize s.data.toList = l at hne hd ⊢
  rcases trim_cases l with ⟨r, rfl, e⟩ | ⟨h45, e⟩
  · rw [e] at hne hd ⊢
    rw [decide_eq_true (by simp), if_pos rfl, Lib.atoiAll_minus]
    unfold Lib.parseMag
    rw [if_neg hne, parse_val r 0 hd (by omega)]
    generalize digV 0 r = V
    have hs : Lib.atoiSat (45 :: r) = -9223372036854775808 := rfl
    rw [hs]
    by_cases h1 : V < 18446744073709551616
    · rw [if_pos h1, signed_ok]
      by_cases h2 : V ≤ 9223372036854775808
      · rw [if_pos h2, if_neg (by omega)]
      · rw [if_neg h2, if_pos (by omega)]
    · rw [if_neg h1, signed_range, if_neg (by omega)]
  · rw [e] at hne hd ⊢
    rw [decide_eq_false (by omega), if_neg (by decide)]
    cases l with
    | nil => exact absurd rfl hne
    | cons c r =>
      have hc := hd c List.mem_cons_self
      unfold isDg at hc
      have hs : Lib.atoiSat (c :: r) = 9223372036854775807 := by
        unfold Lib.atoiSat
        rw [if_neg]
        simp
        omega
      rw [Lib.atoiAll_plain c r (by omega) (by omega), hs]
      unfold Lib.parseMag
      rw [if_neg hne, parse_val (c :: r) 0 hd (by omega)]
      generalize digV 0 (c :: r) = V
      by_cases h1 : V < 18446744073709551616
      · rw [if_pos h1, signless_ok]
        by_cases h2 : V < 9223372036854775808
        · rw [if_pos h2, if_neg (by omega)]
        · rw [if_neg h2, if_pos (by omega)]
      · rw [if_neg h1, signless_range, if_neg (by omega)]
theorem num_near {s : ByteArray} (h : numB s = true) (hf : farB s = false) : valN s = numR s ∧ digV 0 (trimB s).data.toList < 1000000000000000000 := by
  obtain ⟨hne, hd, _⟩ := numB_parts h
  have h18 := of_decide_eq_false hf
  have hz2 := ba_size (trimB s)
  have h1 := digV_lt _ 0 hd
  have h2 : digV 0 (trimB s).data.toList < 1000000000000000000 := by
    refine Nat.lt_of_lt_of_le h1 ?_
    rw [Nat.zero_add, Nat.one_mul]
    exact Nat.le_trans (Nat.pow_le_pow_right (by omega) (by omega : (trimB s).data.toList.length ≤ 18)) (by decide)
  refine ⟨?_, h2⟩
  rw [valN_dig h]
  unfold numR
  split
  · rw [if_pos (by omega)]
  · rw [if_pos (by omega)]
theorem num_far {s : ByteArray} (h : numB s = true) (hf : farB s = true) : 1000000000000000000 ≤ valN s ∨ valN s ≤ -1000000000000000000 := by
  obtain ⟨hne, hd, hz⟩ := numB_parts h
  have h18 := of_decide_eq_true hf
  have hz2 := ba_size (trimB s)
  have h2 : 1000000000000000000 ≤ digV 0 (trimB s).data.toList := by
    have hb : byteAt (trimB s) 0 ≠ 48 := by
      intro h0
      have h3 := hz h0
      unfold zeroB at h3
      have h3 := beq_iff_eq.1 h3
      rw [ByteArray.toList_eq] at h3
      have h4 : (trimB s).data.toList = [48] := by
        rw [trim_data, h3]; rfl
      rw [h4] at hz2
      simp at hz2
      omega
    unfold byteAt at hb
    generalize (trimB s).data.toList = l at hne hd hz2 hb ⊢
    cases l with
    | nil => exact absurd rfl hne
    | cons c r =>
      have hc := hd c List.mem_cons_self
      unfold isDg at hc
      have hc2 : 49 ≤ c.toNat := by
        have : c.toNat ≠ 48 := fun e => hb (by simp [e])
        omega
      rw [digV_cons]
      have h5 := digV_pow r (0 * 10 + (c.toNat - 48))
      refine Nat.le_trans ?_ h5
      have h6 : 10 ^ 18 ≤ 10 ^ r.length := Nat.pow_le_pow_right (by omega) (by simp at hz2; omega)
      have h7 : 1 * 10 ^ r.length ≤ (0 * 10 + (c.toNat - 48)) * 10 ^ r.length := Nat.mul_le_mul_right _ (by omega)
      have h8 : (10 : Nat) ^ 18 = 1000000000000000000 := by decide
      omega
  rw [valN_dig h]
  split
  · split
    · right; omega
    · right; omega
  · split
    · left; omega
    · left; omega
end Go.Proofs.YthdgbdjagjagpaaGreatDoor

/-
  The bytes of a list of instructions, and where a jump's bytes stand in them. No Go in it.
-/
namespace Go.Proofs.YthdgbdjagjagpaaGreatDoor
open Go.RowKit
set_option maxRecDepth 20000
set_option linter.unusedVariables false
set_option linter.unusedSimpArgs false

def encs (l : List Ix) : List UInt8 := l.flatMap fun x => eL x.op x.a x.b
theorem encs_cons (x : Ix) (l : List Ix) : encs (x :: l) = eL x.op x.a x.b ++ encs l := by unfold encs; rw [List.flatMap_cons]
theorem encs_snoc (l : List Ix) (x : Ix) : encs (l ++ [x]) = encs l ++ eL x.op x.a x.b := by unfold encs; simp
def adr (l : List Ix) (k : Nat) : Nat := (encs (l.take k)).length
theorem adr_zero (l : List Ix) : adr l 0 = 0 := rfl
theorem adr_succ (x : Ix) (l : List Ix) (k : Nat) : adr (x :: l) (k + 1) = (eL x.op x.a x.b).length + adr l k := by unfold adr; rw [List.take_succ_cons, encs_cons, List.length_append]
theorem adr_all (l : List Ix) : adr l l.length = (encs l).length := by unfold adr; rw [List.take_length]
theorem adr_app (l r : List Ix) (k : Nat) (h : k ≤ l.length) : adr (l ++ r) k = adr l k := by unfold adr; rw [List.take_append_of_le_length h]
theorem alD_all : ∀ (l : List Ix) (i : Nat) (acc : List UInt8), (∀ x ∈ l, eE x.op x.a x.b = 0) → acc.length + (encs l).length ≤ 4096 → alD l i acc = (acc ++ encs l, 0, 0)
  | [], i, acc, _, _ => by simp [alD, encs]
  | x :: t, i, acc, h, hl => by
    rw [encs_cons, List.length_append] at hl
    rw [alD, if_pos (h x List.mem_cons_self), if_pos (by omega), alD_all t (i + 1) _ (fun y hy => h y (List.mem_cons_of_mem _ hy)) (by rw [List.length_append]; omega), encs_cons, List.append_assoc]
theorem setA_zero (x : Ix) (l : List Ix) (a : Int) : setA (x :: l) 0 a = { x with a := a } :: l := rfl
theorem setA_succ (x : Ix) (l : List Ix) (k : Nat) (a : Int) : setA (x :: l) (k + 1) a = x :: setA l k a := rfl
theorem setA_len (l : List Ix) (k : Nat) (a : Int) : (setA l k a).length = l.length := by unfold setA; simp
theorem jmp_w {op : Nat} (h : jmpN op = true) : (op = 19 ∨ op = 20) := by
  unfold jmpN at h
  rw [Bool.or_eq_true] at h
  rcases h with h | h
  · exact Or.inl (of_decide_eq_true h)
  · exact Or.inr (of_decide_eq_true h)
theorem jmp_enc {op : Nat} {a b : Int} (h : jmpN op = true) (he : eE op a b = 0) : eL op a b = [UInt8.ofNat op, byI a 1, byI a 0] := by
  unfold eL
  rw [if_pos he]
  unfold encL
  rcases jmp_w h with rfl | rfl
  · show UInt8.ofNat 19 :: (beI a 2 ++ beI b 0) = _
    rfl
  · show UInt8.ofNat 20 :: (beI a 2 ++ beI b 0) = _
    rfl
theorem jmp_ok {op : Nat} {a b c : Int} (h : jmpN op = true) (he : eE op a b = 0) (h0 : 0 ≤ c) (h1 : c ≤ 65535) : eE op c b = 0 := by
  unfold eE at he ⊢
  have hin : inD op c b = inD op a b ∨ inD op a b = false ∨ inD op c b = true := by
    cases hc : inD op a b with
    | false => exact Or.inr (Or.inl rfl)
    | true =>
      refine Or.inr (Or.inr ?_)
      unfold inD at hc ⊢
      rw [Bool.and_eq_true] at hc ⊢
      refine ⟨?_, hc.2⟩
      rcases jmp_w h with rfl | rfl
      · show (decide ((0 : Int) ≤ c) && decide (c ≤ 65535)) = true
        simp [h0, h1]
      · show (decide ((0 : Int) ≤ c) && decide (c ≤ 65535)) = true
        simp [h0, h1]
  have ho : op < 34 := by rcases jmp_w h with rfl | rfl <;> omega
  rw [if_pos ho] at he ⊢
  rcases hin with h2 | h2 | h2
  · rw [h2]; exact he
  · rw [h2] at he; simp at he
  · rw [h2]; rfl
theorem encs_set : ∀ (l : List Ix) (k : Nat) (x : Ix) (a : Int), l[k]? = some x → jmpN x.op = true → eE x.op x.a x.b = 0 → 0 ≤ a → a ≤ 65535 →
    encs (setA l k a) = ((encs l).set (adr l k + 1) (byI a 1)).set (adr l k + 2) (byI a 0) ∧ adr l k + 3 ≤ (encs l).length
  | [], k, x, a, h, _, _, _, _ => by simp at h
  | y :: t, 0, x, a, h, hj, he, h0, h1 => by
    have e : y = x := by simpa using h
    subst e
    rw [setA_zero, encs_cons, encs_cons, adr_zero, jmp_enc hj he, jmp_enc (a := a) hj (jmp_ok hj he h0 h1)]
    refine ⟨rfl, by simp⟩
  | y :: t, k + 1, x, a, h, hj, he, h0, h1 => by
    obtain ⟨h2, h3⟩ := encs_set t k x a (by simpa using h) hj he h0 h1
    rw [setA_succ, encs_cons, encs_cons, adr_succ, h2]
    refine ⟨?_, by rw [List.length_append]; omega⟩
    rw [Nat.add_assoc, Nat.add_assoc, List.set_append_right _ _ (by omega), List.set_append_right _ _ (by omega)]
    congr 2
    · congr 1
      · congr 1; omega
    · omega
theorem setA_get : ∀ (l : List Ix) (k : Nat) (a : Int) (m : Nat), (setA l k a)[m]? = if m = k then l[m]?.map (fun x => { x with a := a }) else l[m]?
  | [], k, a, m => by unfold setA; simp
  | y :: t, 0, a, 0 => rfl
  | y :: t, 0, a, m + 1 => by rw [setA_zero]; simp
  | y :: t, k + 1, a, 0 => by rw [setA_succ]; simp
  | y :: t, k + 1, a, m + 1 => by rw [setA_succ]; simpa using setA_get t k a m
theorem setA_ok {l : List Ix} {k : Nat} {a : Int} {x : Ix} (h : ∀ y ∈ l, eE y.op y.a y.b = 0) (hx : l[k]? = some x) (hj : jmpN x.op = true) (h0 : 0 ≤ a) (h1 : a ≤ 65535) : ∀ y ∈ setA l k a, eE y.op y.a y.b = 0 := by
  intro y hy
  obtain ⟨m, hm, e⟩ := List.mem_iff_getElem.1 hy
  have h2 : (setA l k a)[m]? = some y := by rw [List.getElem?_eq_getElem hm, e]
  rw [setA_get] at h2
  split at h2
  · rename_i e2
    subst e2
    rw [hx] at h2
    injection h2 with h2
    subst h2
    exact jmp_ok hj (h x (List.mem_of_getElem? hx)) h0 h1
  · exact h y (List.mem_of_getElem? h2)
theorem encs_len_set {l : List Ix} {k : Nat} {a : Int} {x : Ix} (hx : l[k]? = some x) (hj : jmpN x.op = true) (he : eE x.op x.a x.b = 0) (h0 : 0 ≤ a) (h1 : a ≤ 65535) : (encs (setA l k a)).length = (encs l).length := by
  rw [(encs_set l k x a hx hj he h0 h1).1]; simp
theorem adr_set : ∀ (l : List Ix) (k m : Nat) (a : Int) (x : Ix), l[k]? = some x → jmpN x.op = true → eE x.op x.a x.b = 0 → 0 ≤ a → a ≤ 65535 → adr (setA l k a) m = adr l m
  | [], k, m, a, x, h, _, _, _, _ => by simp at h
  | y :: t, k, 0, a, x, h, _, _, _, _ => by rw [adr_zero, adr_zero]
  | y :: t, 0, m + 1, a, x, h, hj, he, h0, h1 => by
    have e : y = x := by simpa using h
    subst e
    rw [setA_zero, adr_succ, adr_succ, jmp_enc hj he, jmp_enc (a := a) hj (jmp_ok hj he h0 h1)]
    rfl
  | y :: t, k + 1, m + 1, a, x, h, hj, he, h0, h1 => by
    rw [setA_succ, adr_succ, adr_succ, adr_set t k m a x (by simpa using h) hj he h0 h1]

/-- A state that a reading can come to. -/
structure GdS (st : Rs) : Prop where
  ok : ∀ x ∈ st.list, eE x.op x.a x.b = 0
  sz : st.size = (encs st.list).length
  le : st.size ≤ 4096
  jmp : ∀ j ∈ st.jumps, ∃ x, st.list[j.place]? = some x ∧ jmpN x.op = true
theorem gdS_nil : GdS ⟨[], [], 0, []⟩ := ⟨(fun x h => by cases h), rfl, by decide, (fun j h => by cases h)⟩
theorem putS_err {st : Rs} {op : Nat} {a b : Int} (h : (putS st op a b).1 = 0) : eE op a b = 0 ∧ st.size + (eL op a b).length ≤ 4096 ∧ putS st op a b = (0, { st with list := st.list ++ [⟨0, op, a, b⟩], size := st.size + (eL op a b).length }) := by
  unfold putS at h ⊢
  by_cases he : eE op a b ≠ 0
  · rw [if_pos he] at h; exact absurd h he
  · rw [if_neg he] at h ⊢
    have he : eE op a b = 0 := Classical.byContradiction he
    by_cases hl : 4096 < st.size + (eL op a b).length
    · rw [if_pos hl] at h; exact absurd h (show ¬ (4 : Int) = 0 by decide)
    · rw [if_neg hl]; exact ⟨he, by omega, rfl⟩
theorem eL_pos {op : Nat} {a b : Int} (he : eE op a b = 0) : 1 ≤ (eL op a b).length := by unfold eL; rw [if_pos he, encL_length]; omega
theorem encs_ge : ∀ (l : List Ix), (∀ x ∈ l, eE x.op x.a x.b = 0) → l.length ≤ (encs l).length
  | [], _ => by simp
  | x :: t, h => by
    have h1 := eL_pos (h x List.mem_cons_self)
    have h2 := encs_ge t (fun y hy => h y (List.mem_cons_of_mem _ hy))
    rw [encs_cons, List.length_append, List.length_cons]; omega
theorem GdS.len {st : Rs} (h : GdS st) : st.list.length ≤ 4096 := by have := encs_ge st.list h.ok; have := h.sz; have := h.le; omega
theorem GdS.put {st st0 : Rs} {op : Nat} {a b : Int} (h : GdS st0) (e1 : st.list = st0.list) (e2 : st.size = st0.size) (hj : ∀ j ∈ st.jumps, j ∈ st0.jumps ∨ (j.place = st0.list.length ∧ jmpN op = true)) (h0 : (putS st op a b).1 = 0) : GdS (putS st op a b).2 := by
  obtain ⟨p1, p2, p3⟩ := putS_err h0
  rw [p3]
  refine ⟨?_, ?_, p2, ?_⟩
  · intro x hx
    simp only [List.mem_append, List.mem_singleton] at hx
    rcases hx with hx | rfl
    · rw [e1] at hx; exact h.ok x hx
    · exact p1
  · show st.size + _ = _
    rw [encs_snoc, List.length_append, e1, e2, h.sz]
  · intro j hx
    rcases hj j hx with h3 | ⟨h3, h4⟩
    · obtain ⟨x, h5, h6⟩ := h.jmp j h3
      refine ⟨x, ?_, h6⟩
      show (st.list ++ _)[j.place]? = _
      rw [e1, List.getElem?_append_left (List.getElem?_eq_some_iff.1 h5).1]; exact h5
    · refine ⟨⟨0, op, a, b⟩, ?_, h4⟩
      show (st.list ++ _)[j.place]? = _
      rw [e1, h3]; simp
theorem GdS.read {st : Rs} {i : Nat} {ws : List ByteArray} (h : GdS st) (h0 : (readS st i ws).1 = 0) : GdS (readS st i ws).2 := by
  cases ws with
  | nil => exact h
  | cons w r =>
    rw [readS_cons] at h0 ⊢
    split
    · rename_i e; rw [if_pos e] at h0
      unfold nameS at h0 ⊢
      split
      · rename_i e2; rw [if_pos e2] at h0; exact absurd h0 (show ¬ (230 : Int) = 0 by decide)
      · exact ⟨h.ok, h.sz, h.le, h.jmp⟩
    · rename_i e; rw [if_neg e] at h0
      split
      · rename_i e2; rw [if_pos e2] at h0; exact absurd h0 (show ¬ (231 : Int) = 0 by decide)
      · rename_i e2; rw [if_neg e2] at h0
        split
        · rename_i e3; rw [if_pos e3] at h0
          unfold jumpS at h0 ⊢
          split
          · rename_i e4; rw [if_pos e4] at h0
            refine GdS.put (st0 := st) h rfl rfl (fun j hj => ?_) h0
            simp only [List.mem_append, List.mem_singleton] at hj
            rcases hj with hj | rfl
            · exact Or.inl hj
            · exact Or.inr ⟨rfl, e3⟩
          · rename_i e4; rw [if_neg e4] at h0; exact absurd h0 (show ¬ (231 : Int) = 0 by decide)
        · rename_i e3; rw [if_neg e3] at h0
          unfold plainS at h0 ⊢
          split
          · rename_i e4; rw [if_pos e4] at h0
            exact GdS.put (st0 := st) h rfl rfl (fun j hj => Or.inl hj) h0
          · rename_i e4; rw [if_neg e4] at h0; exact absurd h0 (show ¬ (231 : Int) = 0 by decide)
end Go.Proofs.YthdgbdjagjagpaaGreatDoor

/-
  Numerals as words: they are numbers, and names' ends; lines of words and blanks. No Go in it.
-/
namespace Go.Proofs.YthdgbdjagjagpaaGreatDoor
open Go.RowKit
set_option maxRecDepth 20000
set_option linter.unusedVariables false
set_option linter.unusedSimpArgs false

theorem digV_snoc (acc : Nat) (l : List UInt8) (c : UInt8) : digV acc (l ++ [c]) = digV acc l * 10 + (c.toNat - 48) := by unfold digV; rw [List.foldl_append]; rfl
theorem u8_dg (k : Nat) (h : k < 10) : (UInt8.ofNat (48 + k)).toNat = 48 + k := by rw [UInt8.toNat_ofNat_of_lt' (by show _ < 256; omega)]
theorem dd_all (u : Nat) : (∀ c ∈ Lib.decDigits u, isDg c) ∧ digV 0 (Lib.decDigits u) = u ∧ Lib.decDigits u ≠ [] ∧ (u ≠ 0 → (Lib.decDigits u).head? ≠ some 48) := by
  induction u using Nat.strongRecOn with
  | _ u ih =>
    by_cases h : u < 10
    · rw [Lib.decDigits, dif_pos h]
      have e := u8_dg u h
      refine ⟨fun c hc => ?_, ?_, by simp, fun h0 => ?_⟩
      · rw [List.mem_singleton.1 hc]; unfold isDg; omega
      · rw [digV_cons, digV_nil, e]; omega
      · intro h2
        rw [List.head?_cons] at h2
        injection h2 with h2
        have := congrArg UInt8.toNat h2
        rw [e] at this
        have h3 : (48 : UInt8).toNat = 48 := rfl
        omega
    · rw [Lib.decDigits, dif_neg h]
      obtain ⟨h1, h2, h3, h4⟩ := ih (u / 10) (by omega)
      have e := u8_dg (u % 10) (by omega)
      refine ⟨fun c hc => ?_, ?_, by simp, fun h0 => ?_⟩
      · rw [List.mem_append, List.mem_singleton] at hc
        rcases hc with hc | rfl
        · exact h1 c hc
        · unfold isDg; omega
      · rw [digV_snoc, h2, e]; omega
      · have h5 := h4 (by omega)
        cases hd : Lib.decDigits (u / 10) with
        | nil => exact absurd hd h3
        | cons a b => rw [hd] at h5; exact h5
theorem dd_zero : Lib.decDigits 0 = [48] := by rw [Lib.decDigits, dif_pos (by decide)]; rfl
theorem itoa_cases (n : Int) : (0 ≤ n ∧ Lib.itoa n = Lib.decDigits n.toNat) ∨ (n < 0 ∧ Lib.itoa n = 45 :: Lib.decDigits n.natAbs) := by
  unfold Lib.itoa
  by_cases h : n < 0
  · rw [if_pos h]; exact Or.inr ⟨h, rfl⟩
  · rw [if_neg h]; exact Or.inl ⟨by omega, rfl⟩
def bw (l : List UInt8) : ByteArray := ⟨l.toArray⟩
theorem bw_data (l : List UInt8) : (bw l).data.toList = l := by unfold bw; simp
theorem bw_size (l : List UInt8) : (bw l).size = l.length := by rw [← ba_size, bw_data]
theorem all_dig {d : ByteArray} (h : ∀ c ∈ d.data.toList, isDg c) : allDig d d.size = true := by
  unfold allDig
  rw [List.all_eq_true]
  intro j hj
  have hj := List.mem_range.1 hj
  have hl : j < d.data.toList.length := by rw [ba_size]; exact hj
  have h1 := h _ (List.getElem_mem hl)
  unfold isDg at h1
  unfold digB byteAt
  rw [List.getElem?_eq_getElem hl]
  simp only [Option.getD_some]
  exact decide_eq_true (by omega)
theorem trim_dig {l : List UInt8} (h : ∀ c ∈ l, isDg c) : Lib.trimPrefix l [45] = l := by
  rcases trim_cases l with ⟨r, rfl, _⟩ | ⟨_, e⟩
  · have := h 45 List.mem_cons_self
    unfold isDg at this
    simp at this
  · exact e
theorem trim_neg (l : List UInt8) : Lib.trimPrefix (45 :: l) [45] = l := by
  rcases trim_cases (45 :: l) with ⟨r, h, e⟩ | ⟨h, _⟩
  · injection h with _ h; rw [e, h]
  · simp at h
theorem trim_bw (l : List UInt8) : trimB (bw l) = bw (Lib.trimPrefix l [45]) := by unfold trimB; rw [bw_data]; rfl
theorem num_itoa (n : Int) (h0 : -9223372036854775808 ≤ n) (h1 : n ≤ 9223372036854775807) : numB (bw (Lib.itoa n)) = true ∧ valN (bw (Lib.itoa n)) = n := by
  have key : ∀ u : Nat, ∀ s : ByteArray, trimB s = bw (Lib.decDigits u) → (u = 0 → s = bw [48]) → numB s = true := by
    intro u s ht hz
    obtain ⟨d1, d2, d3, d4⟩ := dd_all u
    unfold numB
    rw [ht, all_dig (by rw [bw_data]; exact d1), bw_size]
    have hp : 0 < (Lib.decDigits u).length := by
      cases h : Lib.decDigits u with
      | nil => exact absurd h d3
      | cons a b => simp
    rw [decide_eq_true hp]
    simp only [Bool.true_and, Bool.and_true]
    by_cases hu : u = 0
    · rw [hz hu]
      have : zeroB (bw [48]) = true := by unfold zeroB; rw [ByteArray.toList_eq, bw_data]; rfl
      rw [this]; simp
    · have hb : byteAt (bw (Lib.decDigits u)) 0 ≠ 48 := by
        have h4 := d4 hu
        unfold byteAt
        rw [bw_data]
        intro hh
        cases h : Lib.decDigits u with
        | nil => exact d3 h
        | cons a b =>
          rw [h] at hh h4
          apply h4
          simp at hh ⊢
          have : a.toNat = 48 := by omega
          exact UInt8.toNat_inj.1 (by rw [this]; rfl)
      rw [decide_eq_false hb]; rfl
  rcases itoa_cases n with ⟨hn, e⟩ | ⟨hn, e⟩
  · obtain ⟨d1, d2, d3, d4⟩ := dd_all n.toNat
    have ht : trimB (bw (Lib.itoa n)) = bw (Lib.decDigits n.toNat) := by rw [trim_bw, e, trim_dig d1]
    have hk := key n.toNat (bw (Lib.itoa n)) ht (fun h => by rw [e, h, dd_zero])
    refine ⟨hk, ?_⟩
    rw [valN_dig hk, ht, bw_data, d2]
    have hng : negB (bw (Lib.itoa n)) = false := by unfold negB; rw [ht, bw_size, bw_size, e]; exact decide_eq_false (by omega)
    rw [hng, if_neg (by decide), if_pos (by omega)]
    omega
  · obtain ⟨d1, d2, d3, d4⟩ := dd_all n.natAbs
    have ht : trimB (bw (Lib.itoa n)) = bw (Lib.decDigits n.natAbs) := by rw [trim_bw, e, trim_neg]
    have hk := key n.natAbs (bw (Lib.itoa n)) ht (fun h => by omega)
    refine ⟨hk, ?_⟩
    rw [valN_dig hk, ht, bw_data, d2]
    have hng : negB (bw (Lib.itoa n)) = true := by unfold negB; rw [ht, bw_size, bw_size, e]; exact decide_eq_true (by simp)
    rw [hng, if_pos rfl, if_pos (by omega)]
    omega
theorem itoa_ch (n : Int) : ∀ c ∈ Lib.itoa n, isDg c ∨ c = 45 := by
  intro c hc
  rcases itoa_cases n with ⟨_, e⟩ | ⟨_, e⟩
  · rw [e] at hc; exact Or.inl ((dd_all _).1 c hc)
  · rw [e, List.mem_cons] at hc
    rcases hc with rfl | hc
    · exact Or.inr rfl
    · exact Or.inl ((dd_all _).1 c hc)
theorem itoa_ne (n : Int) : Lib.itoa n ≠ [] := by
  rcases itoa_cases n with ⟨_, e⟩ | ⟨_, e⟩
  · rw [e]; exact (dd_all _).2.2.1
  · rw [e]; simp
theorem itoa_inj {a b : Int} (ha : 0 ≤ a) (hb : 0 ≤ b) (h : Lib.itoa a = Lib.itoa b) : a = b := by
  rcases itoa_cases a with ⟨_, ea⟩ | ⟨h1, _⟩
  · rcases itoa_cases b with ⟨_, eb⟩ | ⟨h2, _⟩
    · rw [ea, eb] at h
      have := congrArg (digV 0) h
      rw [(dd_all _).2.1, (dd_all _).2.1] at this
      omega
    · omega
  · omega

/-- A sign that a word may have: no blank, no end of a line, no beginning of a remark. -/
def wch (c : UInt8) : Prop := blk c.toNat = false ∧ c ≠ 59 ∧ c ≠ 10
def wok (w : List UInt8) : Prop := w ≠ [] ∧ ∀ c ∈ w, wch c
theorem wch_of {c : UInt8} (h : 33 ≤ c.toNat) (h2 : c ≠ 59) : wch c := by
  refine ⟨?_, h2, fun e => by rw [e] at h; exact absurd h (by decide)⟩
  unfold blk; rw [decide_eq_false (by omega), decide_eq_false (by omega)]; rfl
theorem wch_dg {c : UInt8} (h : isDg c ∨ c = 45) : wch c := by
  rcases h with h | rfl
  · unfold isDg at h
    refine wch_of (by omega) (fun e => ?_)
    rw [e] at h; exact absurd h (by decide)
  · exact ⟨by decide, by decide, by decide⟩
theorem wok_itoa (n : Int) : wok (Lib.itoa n) := ⟨itoa_ne n, fun c hc => wch_dg (itoa_ch n c hc)⟩
theorem wok_app {a b : List UInt8} (ha : wok a) (hb : ∀ c ∈ b, wch c) : wok (a ++ b) := ⟨fun e => ha.1 (List.append_eq_nil_iff.1 e).1, fun c hc => by
  rcases List.mem_append.1 hc with h | h
  · exact ha.2 c h
  · exact hb c h⟩
theorem cutR_more : ∀ (A r : List UInt8), (∀ c ∈ A, c ≠ 59) → cutR (A ++ r) = A ++ cutR r
  | [], r, _ => rfl
  | c :: A, r, h => by
    rw [List.cons_append, cutR, if_neg (h c List.mem_cons_self), cutR_more A r (fun x hx => h x (List.mem_cons_of_mem _ hx))]; rfl
theorem fld_word {w : List UInt8} (h : wok w) : fldL [] w = [w] := by
  have := fldL_more w [] [] (fun c hc => (h.2 c hc).1)
  rw [List.append_nil, List.nil_append] at this
  rw [this, fldL, if_neg h.1]
theorem fld_next {w : List UInt8} {b : UInt8} {r : List UInt8} (h : wok w) (hb : blk b.toNat = true) : fldL [] (w ++ b :: r) = w :: fldL [] r := by
  rw [fldL_more w [] (b :: r) (fun c hc => (h.2 c hc).1), List.nil_append, fldL, hb, if_pos rfl, if_neg h.1]
theorem fld_blank {b : UInt8} {r : List UInt8} (hb : blk b.toNat = true) : fldL [] (b :: r) = fldL [] r := by rw [fldL, hb, if_pos rfl, if_pos rfl]
/-- A line without its end whose words are these. -/
def Ln (t : List UInt8) (ws : List (List UInt8)) : Prop := (10 : UInt8) ∉ t ∧ wrdL t = ws
theorem ln_text {t rest : List UInt8} {ws : List (List UInt8)} (h : Ln t ws) : (splL (t ++ 10 :: rest)).map wrdL = ws :: (splL rest).map wrdL := by
  rw [splL_hit h.1, List.map_cons, h.2]
theorem wok_no10 {w : List UInt8} (h : wok w) : (10 : UInt8) ∉ w := fun hm => (h.2 10 hm).2.2 rfl
theorem wok_no59 {w : List UInt8} (h : wok w) : ∀ c ∈ w, c ≠ 59 := fun c hc => (h.2 c hc).2.1
/-- A row of words, each behind some blanks. -/
def spaced : List (List UInt8 × List UInt8) → List UInt8
  | [] => []
  | x :: t => x.1 ++ x.2 ++ spaced t
def okSp : List (List UInt8 × List UInt8) → Bool → Prop
  | [], _ => True
  | x :: t, first => (∀ c ∈ x.1, blk c.toNat = true) ∧ (first = true ∨ x.1 ≠ []) ∧ wok x.2 ∧ okSp t false
theorem blk_no {c : UInt8} (h : blk c.toNat = true) : c ≠ 59 ∧ c ≠ 10 := ⟨fun e => by rw [e] at h; exact absurd h (by decide), fun e => by rw [e] at h; exact absurd h (by decide)⟩
theorem fld_blanks : ∀ (b r : List UInt8), (∀ c ∈ b, blk c.toNat = true) → fldL [] (b ++ r) = fldL [] r
  | [], r, _ => rfl
  | c :: b, r, h => by rw [List.cons_append, fld_blank (h c List.mem_cons_self), fld_blanks b r (fun x hx => h x (List.mem_cons_of_mem _ hx))]
theorem spaced_fld : ∀ (l : List (List UInt8 × List UInt8)) (first : Bool) (e : List UInt8), okSp l first → (∀ c ∈ e, blk c.toNat = true) → (∀ cur, (cur = [] → first = true) → (cur ≠ [] → ∀ x r, l = x :: r → x.1 ≠ []) → fldL cur (spaced l ++ e) = (if cur = [] then [] else [cur]) ++ l.map (·.2))
  | [], first, e, _, he, cur, _, _ => by
    rw [spaced, List.nil_append, List.map_nil, List.append_nil]
    cases e with
    | nil => rw [fldL]
    | cons c e =>
      have hb := he c List.mem_cons_self
      have h2 := fld_blanks e [] (fun x hx => he x (List.mem_cons_of_mem _ hx))
      rw [List.append_nil] at h2
      rw [fldL, hb, if_pos rfl, h2]
      rfl
  | (b, w) :: t, first, e, h, he, cur, hc1, hc2 => by
    obtain ⟨h1, h2, h3, h4⟩ := h
    have ih := spaced_fld t false e h4 he w (fun e => absurd e h3.1) (fun _ x r hx => by
      subst hx
      obtain ⟨_, k2, _, _⟩ := h4
      rcases k2 with k2 | k2
      · cases k2
      · exact k2)
    rw [if_neg h3.1] at ih
    have hw : ∀ cur, fldL cur (w ++ (spaced t ++ e)) = fldL (cur ++ w) (spaced t ++ e) := fun cur => fldL_more w cur _ (fun c hc => (h3.2 c hc).1)
    show fldL cur (b ++ w ++ spaced t ++ e) = _
    rw [List.append_assoc, List.append_assoc]
    by_cases hcur : cur = []
    · subst hcur
      rw [if_pos rfl, fld_blanks _ _ h1, hw [], List.nil_append, ih]
      rfl
    · rw [if_neg hcur]
      have hbn := hc2 hcur (b, w) t rfl
      cases b with
      | nil => exact absurd rfl hbn
      | cons c b =>
        rw [List.cons_append, fldL, h1 c List.mem_cons_self, if_pos rfl, if_neg hcur, fld_blanks _ _ (fun x hx => h1 x (List.mem_cons_of_mem _ hx)), hw [], List.nil_append, ih]
        rfl
theorem spaced_no : ∀ (l : List (List UInt8 × List UInt8)) (first : Bool), okSp l first → ∀ c ∈ spaced l, c ≠ 59 ∧ c ≠ 10
  | [], _, _, c, hc => by cases hc
  | x :: t, first, h, c, hc => by
    obtain ⟨h1, _, h3, h4⟩ := h
    rw [spaced, List.mem_append, List.mem_append] at hc
    rcases hc with (hc | hc) | hc
    · exact blk_no (h1 c hc)
    · exact ⟨(h3.2 c hc).2.1, (h3.2 c hc).2.2⟩
    · exact spaced_no t false h4 c hc
/-- Words behind blanks, blanks behind them, and a remark perhaps. -/
theorem ln_words (l : List (List UInt8 × List UInt8)) (e m : List UInt8) (h : okSp l true) (he : ∀ c ∈ e, blk c.toNat = true) (hm : m = [] ∨ ∃ r, m = 59 :: r) (h10 : (10 : UInt8) ∉ m) : Ln (spaced l ++ e ++ m) (l.map (·.2)) := by
  have hno := spaced_no l true h
  have hA : ∀ c ∈ spaced l ++ e, c ≠ 59 ∧ c ≠ 10 := fun c hc => by
    rcases List.mem_append.1 hc with hc | hc
    · exact hno c hc
    · exact blk_no (he c hc)
  constructor
  · intro hm
    rcases List.mem_append.1 hm with hm | hm
    · exact (hA 10 hm).2 rfl
    · exact h10 hm
  · unfold wrdL
    have hf := spaced_fld l true e h he [] (fun _ => rfl) (fun h => absurd rfl h)
    rw [if_pos rfl, List.nil_append] at hf
    rw [cutR_more _ _ (fun c hc => (hA c hc).1)]
    rcases hm with rfl | ⟨r, rfl⟩
    · rw [cutR, List.append_nil]; exact hf
    · rw [cutR, if_pos rfl, List.append_nil]; exact hf
end Go.Proofs.YthdgbdjagjagpaaGreatDoor

/-
  Reading back: lines that spell a code's instructions, with labels of some prefix and lines without words between, are read as that code. No Go in it.
-/
namespace Go.Proofs.YthdgbdjagjagpaaGreatDoor
open Go.RowKit
set_option maxRecDepth 20000
set_option linter.unusedVariables false
set_option linter.unusedSimpArgs false

theorem ixD_enc {k : Nat} {l : List UInt8} (h : dE l = 0) : eE (ixD k l).op (ixD k l).a (ixD k l).b = 0 ∧ eL (ixD k l).op (ixD k l).a (ixD k l).b = l.take (sizeD (ixD k l).op) := by
  cases l with
  | nil => simp [dE] at h
  | cons x t =>
    simp only [dE] at h
    by_cases h34 : x.toNat < 34
    · rw [if_pos h34] at h
      by_cases hl : (x :: t).length < sizeD x.toNat
      · rw [if_pos hl] at h; simp at h
      · rw [if_neg hl] at h
        cases hi : inD x.toNat (dA x.toNat t) (dB x.toNat t) with
        | false => rw [hi] at h; simp at h
        | true =>
          have he : eE x.toNat (dA x.toNat t) (dB x.toNat t) = 0 := by unfold eE; rw [if_pos h34, hi]; rfl
          refine ⟨he, ?_⟩
          show eL x.toNat (dA x.toNat t) (dB x.toNat t) = _
          unfold eL
          rw [if_pos he]
          refine enc_of_dec x t h34 ?_
          have : sizeD x.toNat = 1 + wA x.toNat + wB x.toNat := by unfold sizeD; rw [if_pos h34]
          simp at hl
          omega
    · rw [if_neg h34] at h; simp at h
structure ScB (L : List UInt8) (k : Nat) (l : List Ix) : Prop where
  ok : ∀ x ∈ l, eE x.op x.a x.b = 0
  by_ : encs l = L.drop k
  at_ : ∀ (j : Nat) x, l[j]? = some x → x.p = ((k + adr l j : Nat) : Int)
theorem sc_back (L : List UInt8) : ∀ (f k : Nat), k ≤ L.length → L.length < k + f → (scD L f k).2.2 = 0 → ScB L k (scD L f k).1
  | 0, k, h1, h2, _ => by omega
  | f + 1, k, h1, h2, h0 => by
    by_cases hk : k < L.length
    · by_cases he : dE (L.drop k) = 0
      · rw [sc_good hk he] at h0 ⊢
        obtain ⟨o1, o2, o3, o4⟩ := ixD_ok (k := k) he
        obtain ⟨e1, e2⟩ := ixD_enc (k := k) he
        rw [List.length_drop] at o4
        have ih := sc_back L f (k + sizeD (ixD k (L.drop k)).op) (by omega) (by omega) h0
        have hlen : (eL (ixD k (L.drop k)).op (ixD k (L.drop k)).a (ixD k (L.drop k)).b).length = sizeD (ixD k (L.drop k)).op := by rw [e2, List.length_take, List.length_drop]; omega
        refine ⟨?_, ?_, ?_⟩
        · intro x hx
          rcases List.mem_cons.1 hx with rfl | hx
          · exact e1
          · exact ih.ok x hx
        · rw [encs_cons, ih.by_, e2, ← List.drop_drop, List.take_append_drop]
        · intro j x hx
          cases j with
          | zero =>
            have e : ixD k (L.drop k) = x := by simpa using hx
            subst e
            rw [adr_zero]; exact o2
          | succ j =>
            have := ih.at_ j x (by simpa using hx)
            rw [this, adr_succ, hlen]
            congr 1
            omega
      · rw [sc_bad hk he] at h0; exact absurd h0 he
    · rw [sc_end hk]
      refine ⟨(fun x hx => by cases hx), ?_, (fun j x hx => by simp at hx)⟩
      rw [List.drop_eq_nil_of_le (by omega)]; rfl
theorem scR_back {L : List UInt8} (h : (scR L).2.2 = 0) : ScB L 0 (scR L).1 ∧ L.length ≤ 4096 := by
  unfold scR at h ⊢
  by_cases hl : 4096 < L.length
  · rw [if_pos hl] at h; simp at h
  · rw [if_neg hl] at h ⊢
    by_cases h0 : (scD L (L.length + 1) 0).2.2 = 0
    · rw [if_pos h0]; exact ⟨sc_back L _ 0 (by omega) (by omega) h0, by omega⟩
    · rw [if_neg h0] at h; exact absurd h h0

/-- An instruction without its place, its jump not led yet; and led. -/
def stripX (x : Ix) : Ix := if jmpN x.op then ⟨0, x.op, 0, 0⟩ else ⟨0, x.op, x.a, x.b⟩
def fullX (x : Ix) : Ix := ⟨0, x.op, x.a, x.b⟩
def insP (pf : List UInt8) (x : Ix) : List (List UInt8) := nmL x.op :: (if jmpN x.op then [pf ++ Lib.itoa x.a] else [Lib.itoa x.a, Lib.itoa x.b].take (opnN x.op))
def itW (pf : List UInt8) (ts : List Int) (x : Ix) (n : Nat) : List (List (List UInt8)) := (if x.p ∈ ts then [[pf ++ Lib.itoa x.p ++ [58]]] else []) ++ List.replicate n [] ++ [insP pf x]
def allW (pf : List UInt8) (ts : List Int) (ex : Nat → Nat) : List Ix → Nat → List (List (List UInt8))
  | [], _ => []
  | x :: t, k => itW pf ts x (ex k) ++ allW pf ts ex t (k + 1)
def jmps (pf : List UInt8) : List Ix → Nat → List (Nat × ByteArray)
  | [], _ => []
  | x :: t, k => (if jmpN x.op then [(k, bw (pf ++ Lib.itoa x.a))] else []) ++ jmps pf t (k + 1)
theorem jmps_snoc (pf : List UInt8) : ∀ (A : List Ix) (k : Nat) (x : Ix), jmps pf (A ++ [x]) k = jmps pf A k ++ (if jmpN x.op then [(k + A.length, bw (pf ++ Lib.itoa x.a))] else [])
  | [], k, x => by simp [jmps]
  | y :: A, k, x => by rw [List.cons_append, jmps, jmps, jmps_snoc pf A (k + 1) x, List.append_assoc]; simp [Nat.add_assoc, Nat.add_comm 1]
def labP (pf : List UInt8) (ts : List Int) (A : List Ix) : List (ByteArray × Nat) := (A.filter fun x => decide (x.p ∈ ts)).map fun x => (bw (pf ++ Lib.itoa x.p), x.p.toNat)
theorem labP_snoc (pf : List UInt8) (ts : List Int) (A : List Ix) (x : Ix) : labP pf ts (A ++ [x]) = labP pf ts A ++ (if x.p ∈ ts then [(bw (pf ++ Lib.itoa x.p), x.p.toNat)] else []) := by
  unfold labP
  rw [List.filter_append, List.map_append]
  by_cases h : x.p ∈ ts <;> simp [h]
/-- The state behind the instructions A. -/
structure StB (pf : List UInt8) (ts : List Int) (A : List Ix) (st : Rs) : Prop where
  labs : st.labs = labP pf ts A
  list : st.list = A.map stripX
  size : st.size = (encs A).length
  jumps : st.jumps.map (fun j => (j.place, j.name)) = jmps pf A 0
/-- What a prefix of labels must be. -/
structure PfOk (pf : List UInt8) : Prop where
  len : 1 ≤ pf.length ∧ pf.length ≤ 12
  first : letB ((pf.headD 0).toNat : Int) = true
  rest : ∀ c ∈ pf, restB (c.toNat : Int) = true ∧ 33 ≤ c.toNat ∧ c ≠ 59 ∧ c ≠ 58
theorem name_pf {pf : List UInt8} (h : PfOk pf) {p : Int} (h0 : 0 ≤ p) (h1 : p ≤ 65535) : nameB (bw (pf ++ Lib.itoa p)) = true := by
  have hi : Lib.itoa p = Lib.decDigits p.toNat := by
    rcases itoa_cases p with ⟨_, e⟩ | ⟨e, _⟩
    · exact e
    · omega
  obtain ⟨d1, d2, d3, _⟩ := dd_all p.toNat
  have hlen : (Lib.decDigits p.toNat).length ≤ 5 := by
    rw [Lib.decDigits_length]
    refine Classical.byContradiction fun hh => ?_
    have h5 : 10 ^ 5 ≤ p.toNat := by
      refine Classical.byContradiction fun h6 => ?_
      rcases Nat.lt_or_ge p.toNat 10 with h7 | h7
      · have := Lib.nDigits_small h7; omega
      · rcases Nat.lt_or_ge p.toNat 100 with h8 | h8
        · have := Lib.nDigits_unique 1 p.toNat h7 h8; omega
        · rcases Nat.lt_or_ge p.toNat 1000 with h9 | h9
          · have := Lib.nDigits_unique 2 p.toNat h8 h9; omega
          · rcases Nat.lt_or_ge p.toNat 10000 with h10 | h10
            · have := Lib.nDigits_unique 3 p.toNat h9 h10; omega
            · have := Lib.nDigits_unique 4 p.toNat h10 (by omega); omega
    have : (10 : Nat) ^ 5 = 100000 := by decide
    omega
  rw [hi]
  have hz := bw_size (pf ++ Lib.decDigits p.toNat)
  rw [List.length_append] at hz
  have hl := h.len
  refine nameB_true (by omega) (by omega) ?_ (fun k hk1 hk => ?_)
  · have hf := h.first
    unfold byteAt
    rw [bw_data]
    cases hp : pf with
    | nil => rw [hp] at hl; simp at hl
    | cons c r => rw [hp] at hf; simpa using hf
  · unfold byteAt
    rw [bw_data]
    have hkl : k < (pf ++ Lib.decDigits p.toNat).length := by rw [List.length_append]; omega
    rw [List.getElem?_eq_getElem hkl]
    simp only [Option.getD_some]
    have hm : (pf ++ Lib.decDigits p.toNat)[k] ∈ pf ++ Lib.decDigits p.toNat := List.getElem_mem hkl
    generalize (pf ++ Lib.decDigits p.toNat)[k] = c at hm
    rcases List.mem_append.1 hm with hm | hm
    · exact (h.rest c hm).1
    · have := d1 c hm
      unfold isDg at this
      unfold restB digB
      rw [decide_eq_true (by omega : 48 ≤ ((c.toNat : Nat) : Int) ∧ ((c.toNat : Nat) : Int) ≤ 57)]
      simp
theorem colB_hit (l : List UInt8) : colB (bw (l ++ [58])) = true ∧ stripB (bw (l ++ [58])) = bw l := by
  unfold colB stripB
  rw [bw_data]
  have hs : Lib.hasSuffix (l ++ [58]) [58] = true := by
    unfold Lib.hasSuffix
    first
      | exact List.isSuffixOf_iff_suffix.2 (List.suffix_append _ _)
      | simp
  refine ⟨hs, ?_⟩
  unfold Lib.trimSuffix
  rw [if_pos hs]
  unfold bw
  congr 1
  simp
theorem pf_inj {pf : List UInt8} {a b : Int} (ha : 0 ≤ a) (hb : 0 ≤ b) (h : (bw (pf ++ Lib.itoa a)).data.toList = (bw (pf ++ Lib.itoa b)).data.toList) : a = b := by
  rw [bw_data, bw_data] at h
  exact itoa_inj ha hb (List.append_cancel_left h)
theorem find_none {pf : List UInt8} {ts : List Int} : ∀ {A : List Ix} {p : Int}, 0 ≤ p → (∀ x ∈ A, 0 ≤ x.p ∧ x.p ≠ p) → findLb (labP pf ts A) (bw (pf ++ Lib.itoa p)) = none
  | [], p, _, _ => rfl
  | x :: A, p, hp, h => by
    have ih := find_none (pf := pf) (ts := ts) (A := A) hp (fun y hy => h y (List.mem_cons_of_mem _ hy))
    unfold labP at ih ⊢
    rw [List.filter_cons]
    split
    · rw [List.map_cons, findLb, if_neg]
      · exact ih
      · intro e
        exact (h x List.mem_cons_self).2 (pf_inj (h x List.mem_cons_self).1 hp e)
    · exact ih
theorem find_some {pf : List UInt8} {ts : List Int} : ∀ {A : List Ix} {p : Int}, 0 ≤ p → p ∈ ts → (∀ x ∈ A, 0 ≤ x.p) → (∃ x ∈ A, x.p = p) → findLb (labP pf ts A) (bw (pf ++ Lib.itoa p)) = some p.toNat
  | [], p, _, _, _, h => by obtain ⟨x, hx, _⟩ := h; cases hx
  | x :: A, p, hp, hts, h0, h => by
    by_cases e : x.p = p
    · unfold labP
      rw [List.filter_cons, if_pos (decide_eq_true (by rw [e]; exact hts)), List.map_cons, findLb, e, if_pos rfl]
    · have ih := find_some (pf := pf) (ts := ts) (A := A) hp hts (fun y hy => h0 y (List.mem_cons_of_mem _ hy)) (by
        obtain ⟨y, hy, hp⟩ := h
        rcases List.mem_cons.1 hy with rfl | hy
        · exact absurd hp e
        · exact ⟨y, hy, hp⟩)
      unfold labP at ih ⊢
      rw [List.filter_cons]
      split
      · rw [List.map_cons, findLb, if_neg]
        · exact ih
        · intro e2
          exact e (pf_inj (h0 x List.mem_cons_self) hp e2)
      · exact ih
theorem colB_wC : ∀ k, k < 34 → colB (wC k) = false := by decide +kernel
theorem bw_nmL {k : Nat} (h : k < 34) : bw (nmL k) = wC k := by
  unfold nmL
  rw [nmD_wC h]
  rfl
theorem w_zero : ∀ k, k < 34 → (opnN k = 0 → wA k = 0) ∧ (opnN k ≠ 2 → wB k = 0) ∧ (jmpN k = true → opnN k = 1) := by decide +kernel
theorem eE_op {op : Nat} {a b : Int} (h : eE op a b = 0) : op < 34 := by
  refine Classical.byContradiction fun hh => ?_
  unfold eE at h
  rw [if_neg hh] at h
  exact absurd h (by decide)
theorem eE_zero {op : Nat} {a b : Int} (h : eE op a b = 0) : (opnN op = 0 → a = 0) ∧ (opnN op ≠ 2 → b = 0) ∧ (jmpN op = true → b = 0 ∧ 0 ≤ a ∧ a ≤ 65535) := by
  have ho := eE_op h
  obtain ⟨w1, w2, w3⟩ := w_zero op ho
  unfold eE at h
  rw [if_pos ho] at h
  have hi : inD op a b = true := by
    cases hi : inD op a b with
    | false => rw [hi] at h; simp at h
    | true => rfl
  unfold inD at hi
  rw [Bool.and_eq_true, Bool.and_eq_true, Bool.and_eq_true] at hi
  obtain ⟨⟨a1, a2⟩, b1, b2⟩ := hi
  have a1 := of_decide_eq_true a1
  have a2 := of_decide_eq_true a2
  have b1 := of_decide_eq_true b1
  have b2 := of_decide_eq_true b2
  have hb : opnN op ≠ 2 → b = 0 := fun hn => by
    have : hiB op = 0 := by unfold hiB; rw [if_pos (w2 hn)]
    omega
  refine ⟨fun hn => ?_, hb, fun hj => ?_⟩
  · have hw := w1 hn
    have h1 : hiA op = 0 ∨ op = 2 := by
      unfold hiA
      by_cases h2 : op = 2
      · exact Or.inr h2
      · rw [if_neg h2, if_pos hw]; exact Or.inl rfl
    have h2 : op ≠ 1 ∧ op ≠ 2 := by
      constructor
      · rintro rfl; exact absurd hw (by decide)
      · rintro rfl; exact absurd hw (by decide)
    have h3 : loA op = 0 := by unfold loA; rw [if_neg h2.1]
    rcases h1 with h1 | h1
    · omega
    · exact absurd h1 h2.2
  · refine ⟨hb (by rw [w3 hj]; decide), ?_⟩
    rcases jmp_w hj with rfl | rfl
    · exact ⟨a1, a2⟩
    · exact ⟨a1, a2⟩
theorem eL_strip {x : Ix} (h : eE x.op x.a x.b = 0) : eE (stripX x).op (stripX x).a (stripX x).b = 0 ∧ (eL (stripX x).op (stripX x).a (stripX x).b).length = (eL x.op x.a x.b).length := by
  unfold stripX
  cases hj : jmpN x.op with
  | false => exact ⟨h, rfl⟩
  | true =>
    have hz := (eE_zero h).2.2 hj
    have h2 : eE x.op 0 0 = 0 := by
      have := jmp_ok (c := 0) hj h (by decide) (by decide)
      rw [hz.1] at this
      exact this
    exact ⟨h2, by show (eL x.op 0 0).length = _; rw [jmp_enc hj h2, jmp_enc hj h]; rfl⟩
theorem putS_ok {st : Rs} {op : Nat} {a b : Int} (h : eE op a b = 0) (hl : st.size + (eL op a b).length ≤ 4096) : putS st op a b = (0, { st with list := st.list ++ [⟨0, op, a, b⟩], size := st.size + (eL op a b).length }) := by
  unfold putS
  rw [if_neg (by rw [h]; decide), if_neg (by omega)]
theorem read_ins {pf : List UInt8} {ts : List Int} (hpf : PfOk pf) {A : List Ix} {x : Ix} {st : Rs} {i : Nat} (hx : eE x.op x.a x.b = 0) (ha : -9223372036854775808 ≤ x.a ∧ x.a ≤ 9223372036854775807) (hb : -9223372036854775808 ≤ x.b ∧ x.b ≤ 9223372036854775807)
    (hst : st.list = A.map stripX) (hsz : st.size = (encs A).length) (hj : st.jumps.map (fun j => (j.place, j.name)) = jmps pf A 0) (hl : (encs A).length + (eL x.op x.a x.b).length ≤ 4096) :
    (readS st i ((insP pf x).map bw)).1 = 0 ∧ (readS st i ((insP pf x).map bw)).2.labs = st.labs ∧ (readS st i ((insP pf x).map bw)).2.list = (A ++ [x]).map stripX ∧ (readS st i ((insP pf x).map bw)).2.size = (encs (A ++ [x])).length ∧ (readS st i ((insP pf x).map bw)).2.jumps.map (fun j => (j.place, j.name)) = jmps pf (A ++ [x]) 0 := by
  have ho := eE_op hx
  obtain ⟨z1, z2, z3⟩ := eE_zero hx
  obtain ⟨s1, s2⟩ := eL_strip hx
  have hop := opD_wC x.op ho
  unfold insP
  rw [List.map_cons, readS_cons, bw_nmL ho, if_neg (by rw [colB_wC _ ho]; simp), hop]
  rw [encs_snoc, List.length_append, jmps_snoc, List.map_append, List.map_cons, List.map_nil]
  cases hjn : jmpN x.op with
  | true =>
    have hsx : stripX x = ⟨0, x.op, 0, 0⟩ := by unfold stripX; rw [hjn]; rfl
    rw [hsx] at s1 s2 ⊢
    have hopn := (w_zero x.op ho).2.2 hjn
    rw [if_neg (by rw [hopn]; simp), if_pos rfl]
    unfold jumpS
    have hn : nameB ((List.map bw (if true = true then [pf ++ Lib.itoa x.a] else List.take (opnN x.op) [Lib.itoa x.a, Lib.itoa x.b])).getD 0 ⟨#[]⟩) = true := by
      show nameB (bw (pf ++ Lib.itoa x.a)) = true
      exact name_pf hpf (z3 hjn).2.1 (z3 hjn).2.2
    rw [if_pos hn, putS_ok s1 (by show st.size + _ ≤ 4096; rw [s2, hsz]; exact hl)]
    refine ⟨rfl, rfl, by show st.list ++ _ = _; rw [hst], by show st.size + _ = _; rw [s2, hsz], ?_⟩
    show List.map _ (st.jumps ++ [_]) = _
    rw [List.map_append, hj, if_pos rfl, hst, List.length_map, Nat.zero_add]
    rfl
  | false =>
    have hsx : stripX x = ⟨0, x.op, x.a, x.b⟩ := by unfold stripX; rw [hjn]; rfl
    rw [hsx]
    have hle := opn_le x.op
    rw [if_neg (by simp; omega), if_neg (by simp)]
    have ha' := num_itoa x.a ha.1 ha.2
    have hb' := num_itoa x.b hb.1 hb.2
    have hv : ∀ n, opnN x.op = n → plainS st x.op (List.map bw (if false = true then [pf ++ Lib.itoa x.a] else List.take n [Lib.itoa x.a, Lib.itoa x.b])) = putS st x.op x.a x.b := by
      intro n hn
      rw [hn] at z1 z2 hle
      rcases (by omega : n = 0 ∨ n = 1 ∨ n = 2) with rfl | rfl | rfl
      · rw [z1 rfl, z2 (by decide)]; rfl
      · rw [z2 (by decide)]
        unfold plainS
        show (if (List.all [bw (Lib.itoa x.a)] numB) = true then putS st x.op (valN (bw (Lib.itoa x.a))) 0 else _) = _
        rw [if_pos (by simp [ha'.1]), ha'.2]
      · unfold plainS
        show (if (List.all [bw (Lib.itoa x.a), bw (Lib.itoa x.b)] numB) = true then putS st x.op (valN (bw (Lib.itoa x.a))) (valN (bw (Lib.itoa x.b))) else _) = _
        rw [if_pos (by simp [ha'.1, hb'.1]), ha'.2, hb'.2]
    rw [hv _ rfl, putS_ok hx (by rw [hsz]; exact hl), if_neg (by decide), List.append_nil]
    exact ⟨rfl, rfl, by show st.list ++ _ = _; rw [hst], by show st.size + _ = _; rw [hsz], hj⟩
end Go.Proofs.YthdgbdjagjagpaaGreatDoor
