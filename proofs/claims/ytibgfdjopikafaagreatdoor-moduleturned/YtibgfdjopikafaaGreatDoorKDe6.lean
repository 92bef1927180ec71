/-
  The module's reader: a module. Conditions: none but that the reader is one.
-/
import Derived.Test.YtibgfdjopikafaaGreatDoorJDB
namespace Go.Proofs.YtibgfdjopikafaaGreatDoor
open Go.RowKit
set_option maxRecDepth 20000
set_option linter.unusedVariables false
set_option linter.unusedSimpArgs false

theorem RowAt.keep {α : Type} {N : Nd α} {W W' : World} {ao : Option Addr} {L : List α} {row : Option Nat} {lo hi : Nat} (h : RowAt N W ao L) (hg : W.grownBy W' row) (ha : RowAll N (fun b => lo ≤ b ∧ b < hi) ao L) (hr : ∀ q, row = some q → q < lo ∨ hi ≤ q) : RowAt N W' ao L := by
  cases row with
  | none => exact h.below ⟨hg.os, hg.tape, hg.output, hg.size, fun q hq => hg.block q hq (by simp)⟩
  | some k => exact h.far hg (RowAll.mono (fun b hb => by have := hr k rfl; omega) ha)
theorem RowAt.span {α : Type} {N : Nd α} {W : World} {ao : Option Addr} {L : List α} {lo hi : Nat} (h : RowAt N W ao L) (ha : RowAll N (fun b => lo ≤ b) ao L) (hh : W.heap.size ≤ hi) (hb : ∀ (P Q : Nat → Prop) x, N.all P x → N.all Q x → N.all (fun b => P b ∧ Q b) x) : RowAll N (fun b => lo ≤ b ∧ b < hi) ao L :=
  ⟨fun b off e hl => ⟨ha.1 b off e hl, Nat.lt_of_lt_of_le (h.lt.1 b off e hl) hh⟩, fun y hy => hb _ _ y (ha.2 y hy) (N.mono (fun b hb => Nat.lt_of_lt_of_le hb hh) (h.lt.2 y hy))⟩
theorem cl_both (P Q : Nat → Prop) (x : Cl) (h : clN.all P x) (k : clN.all Q x) : clN.all (fun b => P b ∧ Q b) x := ⟨fun b off e hl => ⟨h.1 b off e hl, k.1 b off e hl⟩, fun _ _ => trivial⟩
theorem fn_both (P Q : Nat → Prop) (x : Fn) (h : fnN.all P x) (k : fnN.all Q x) : fnN.all (fun b => P b ∧ Q b) x := ⟨fun b off e hl => ⟨h.1 b off e hl, k.1 b off e hl⟩, fun b off e hl => ⟨h.2 b off e hl, k.2 b off e hl⟩⟩
theorem infoCl : (Tryz.prog.info? 80).map (fun i => (i.zero, i.size, i.bytes)) = some (some (.agg #[.string ⟨#[]⟩, .int .i64 0, .slice none 0 0]), 3, 48) := by kernel_rfl
theorem ct_hc (n : Nat) (L : List UInt8) (k : Nat) : ctP n L k = bndP (hcP n L k) fun b k1 => repP loP (if b = true then n else 0) L k1 := by
  unfold ctP hcP
  cases byP L k with
  | error e => rfl
  | ok y =>
    obtain ⟨c, k1⟩ := y
    show (if 1 < c ∨ (c = 1 ∧ n = 0) then _ else _) = bndP (if 1 < c ∨ (c = 1 ∧ n = 0) then _ else _) _
    by_cases h : 1 < c ∨ (c = 1 ∧ n = 0)
    · rw [if_pos h, if_pos h]; rfl
    · rw [if_neg h, if_neg h]
      show _ = repP loP (if (c == 1) = true then n else 0) L k1
      by_cases hc : c = 1
      · rw [if_pos hc, if_pos (by rw [hc]; rfl)]
      · rw [if_neg hc, if_neg (by simp [hc])]
/-- A module that was read: its rows lie in memory of their own. -/
structure MdR (W : World) (B : Nat) (y : Md) : Prop where
  T : RowAt clN W y.ao y.T
  F : RowAt fnN W y.fo y.F
  C : RowAt bsN W y.co y.C
  aT : RowAll clN (fun b => B ≤ b) y.ao y.T
  aF : RowAll fnN (fun b => B ≤ b) y.fo y.F
  aC : RowAll bsN (fun b => B ≤ b) y.co y.C
  capT : y.T.length ≤ y.cap
  capF : y.F.length ≤ y.fc
  lenT : y.T.length ≤ 32
  lenF : y.F.length ≤ 64
  lenC : y.C.length ≤ 64
  name : y.nm.size ≤ 255
theorem MdR.ok {W : World} {B : Nat} {y : Md} (h : MdR W B y) : MdOk W y :=
  ⟨tab_of_row h.T, by have := h.lenT; omega, fns_of_row h.F, by have := h.lenF; omega, bss_of_row h.C, by have := h.lenC; omega, by have := h.name; omega⟩
theorem MdR.nil {W : World} {B : Nat} {y : Md} (h : MdR W B y) : ∀ x ∈ y.C, x.ca = none → x.cc = 0 := fun x hx e => by
  obtain ⟨i, hi, e1⟩ := List.mem_iff_getElem.1 hx
  obtain ⟨_, _, _, _, h2⟩ := h.C i x (by rw [← e1]; exact List.getElem?_eq_getElem hi)
  exact (h2.nil e).2
theorem MdR.below {W W' : World} {B : Nat} {y : Md} (h : MdR W B y) (hb : Below W.heap.size W W') : MdR W' B y :=
  ⟨h.T.below hb, h.F.below hb, h.C.below hb, h.aT, h.aF, h.aC, h.capT, h.capF, h.lenT, h.lenF, h.lenC, h.name⟩
theorem MdR.far {W W' : World} {B k : Nat} {y : Md} (h : MdR W B y) (hg : W.grownBy W' (some k)) (hk : k < B) : MdR W' B y :=
  ⟨h.T.far hg (RowAll.mono (fun b hb => by omega) h.aT), h.F.far hg (RowAll.mono (fun b hb => by omega) h.aF), h.C.far hg (RowAll.mono (fun b hb => by omega) h.aC), h.aT, h.aF, h.aC, h.capT, h.capF, h.lenT, h.lenF, h.lenC, h.name⟩
theorem MdR.mono {W : World} {B A : Nat} {y : Md} (h : MdR W B y) (hk : A ≤ B) : MdR W A y :=
  ⟨h.T, h.F, h.C, RowAll.mono (fun b hb => by omega) h.aT, RowAll.mono (fun b hb => by omega) h.aF, RowAll.mono (fun b hb => by omega) h.aC, h.capT, h.capF, h.lenT, h.lenF, h.lenC, h.name⟩
set_option maxHeartbeats 32000000 in
theorem rmodule {w : World} {p g cap : Nat} {l : List UInt8} {k : Nat} (h : IsReader w p g cap l k) : Calls Tryz.prog 71 #[.agg #[.pointer (some ⟨p, 0, none⟩), .int .i64 (l.length : Int)]] w (RP w p g cap l (mdP l k) (fun x v W => ∃ y : Md, v = .agg #[.string y.nm, .slice y.ao y.T.length y.cap, .slice y.fo y.F.length y.fc, .slice y.co y.C.length y.cc] ∧ mcOf y = x ∧ MdR W w.heap.size y)) := by
  obtain ⟨in1, hi1, hz10, hz11, hz12⟩ := info_parts infoCl
  obtain ⟨in2, hi2, hz20, hz21, hz22⟩ := info_parts infoFn
  obtain ⟨in3, hi3, hz30, hz31, hz32⟩ := info_parts infoBs
  have al1 := (Below.refl w.heap.size w).alloc (Nat.le_refl _) (.cells #[.pointer (some ⟨p, 0, none⟩), .int .i64 (l.length : Int)] 112)
  have al := al1.alloc (by simp) (.cells #[.string ⟨#[]⟩, .slice none 0 0, .slice none 0 0, .slice none 0 0] 26)
  have n1 := heap_alloc_new w (.cells #[.pointer (some ⟨p, 0, none⟩), .int .i64 (l.length : Int)] 112)
  have n2 := heap_alloc_new (w.alloc (.cells #[.pointer (some ⟨p, 0, none⟩), .int .i64 (l.length : Int)] 112)) (.cells #[.string ⟨#[]⟩, .slice none 0 0, .slice none 0 0, .slice none 0 0] 26)
  rw [World.size_alloc] at n2
  have HX0 : Hid (Bx ((w.alloc (.cells #[.pointer (some ⟨p, 0, none⟩), .int .i64 (l.length : Int)] 112)).alloc (.cells #[.string ⟨#[]⟩, .slice none 0 0, .slice none 0 0, .slice none 0 0] 26)) w.heap.size 112 #[.pointer (some ⟨p, 0, none⟩), .int .i64 (l.length : Int)]) := hide ((((Below.refl _ _).alloc (Nat.le_refl _) _).block w.heap.size (by simp)).trans n1)
  have HC : Hid (C0 w ((w.alloc (.cells #[.pointer (some ⟨p, 0, none⟩), .int .i64 (l.length : Int)] 112)).alloc (.cells #[.string ⟨#[]⟩, .slice none 0 0, .slice none 0 0, .slice none 0 0] 26)) p g cap l k 26 #[.string ⟨#[]⟩, .slice none 0 0, .slice none 0 0, .slice none 0 0]) := hide ⟨h.below al, grown_of_below al _, unhide HX0, n2, h.pl, by simp⟩
  have hpl : p < w.heap.size := h.pl
  have hgl : g < w.heap.size := h.gl
  have mixed := mixedT
  clear al1 al n1 n2 HX0 h
  go_enter Tryz.func71, Tryz.ntmps71
  go_upto_region 1 with fail
  generalize ((w.alloc (.cells #[.pointer (some ⟨p, 0, none⟩), .int .i64 (l.length : Int)] 112)).alloc (.cells #[.string ⟨#[]⟩, .slice none 0 0, .slice none 0 0, .slice none 0 0] 26)) = W1 at HC ⊢
  have k0 := (unhide HC).bx.c 0 rfl
  have k1 := (unhide HC).bx.c 1 rfl
  have HK := hide (rname (unhide HC).rd)
  go_wp2_with fail
  refine (unhide HK).mono ?_
  rintro e W2 (⟨nm, k1', v, hm, rfl, rfl, hr, hg⟩ | ⟨a, er, hm, rfl, hg⟩)
  rotate_left
  · exact ⟨rfl, Or.inr ⟨_, _, by rw [mdP, hm]; rfl, rfl, grown_trans (unhide HC).gr hg⟩⟩
  have HNM := hide hm
  have HC2 := hide ((unhide HC).step hr hg)
  clear hm hr hg HK k0 k1 HC
  have al : Below W2.heap.size W2 (W2.alloc (.cells #[.string ⟨nm.toArray⟩, .slice none 0 0, .slice none 0 0, .slice none 0 0] 26)) := (Below.refl _ _).alloc (Nat.le_refl _) _
  have HB1 : Hid (Bx (W2.alloc (.cells #[.string ⟨nm.toArray⟩, .slice none 0 0, .slice none 0 0, .slice none 0 0] 26)) W2.heap.size 26 #[.string ⟨nm.toArray⟩, .slice none 0 0, .slice none 0 0, .slice none 0 0]) := hide (heap_alloc_new W2 _)
  have HC1 := hide ((unhide HC2).below al)
  have HGC : Hid (w.heap.size + 2 ≤ W2.heap.size ∧ W2.heap.size < (W2.alloc (.cells #[.string ⟨nm.toArray⟩, .slice none 0 0, .slice none 0 0, .slice none 0 0] 26)).heap.size) := hide ⟨(unhide HC2).sz, by simp⟩
  clear al HC2
  go_upto_region 2 with fail
  generalize W2.alloc (.cells #[.string ⟨nm.toArray⟩, .slice none 0 0, .slice none 0 0, .slice none 0 0] 26) = Wx at HB1 HC1 HGC ⊢
  generalize W2.heap.size = gc at HB1 HGC ⊢
  have k0 := (unhide HC1).bx.c 0 rfl
  have k1 := (unhide HC1).bx.c 1 rfl
  have HK := hide (rcount (unhide HC1).rd 32)
  go_wp2_with fail
  refine (unhide HK).mono ?_
  rintro e W3 (⟨m1, k3, v, hm, rfl, ⟨rfl, hm8⟩, hr, hg⟩ | ⟨a, er, hm, rfl, hg⟩)
  rotate_left
  · exact ⟨rfl, Or.inr ⟨_, _, by rw [mdP, unhide HNM]; show bndP (coP 32 l k1') _ = _; rw [hm]; rfl, rfl, grown_trans (unhide HC1).gr hg⟩⟩
  have HC3 := hide ((unhide HC1).step hr hg)
  have HB3 := hide (box_step (unhide HB1) hg (by have := (unhide HGC).1; omega))
  have HCO1 := hide hm
  have hb3 : w.heap.size + 2 ≤ gc ∧ gc < W3.heap.size := ⟨(unhide HGC).1, Nat.lt_of_lt_of_le (unhide HGC).2 hg.size⟩
  obtain ⟨b1, HBS⟩ : ∃ b1, b1 = W3.heap.size := ⟨_, rfl⟩
  have HLO : Hid (w.heap.size + 2 ≤ gc ∧ gc < b1) := hide ⟨hb3.1, by omega⟩
  have HLO1 : Hid True := hide trivial
  have HL3 : Hid (b1 ≤ W3.heap.size) := hide (by omega)
  have HM1 : Hid (m1 ≤ 32) := hide (co_le hm)
  clear hm hr hg HK HC1 HB1 HGC k0 k1 hb3 HBS
  go_wp2_with fail
  go_loopw [9] (fun i wr => ∃ (q : Nat) (M : List Cl) (kq : Nat) (v : Value), q ≤ m1 ∧ i = .int .i64 (q : Int) ∧ Hid (C0 w wr p g cap l kq 26 #[.string ⟨#[]⟩, .slice none 0 0, .slice none 0 0, .slice none 0 0]) ∧ Hid (Bx wr gc 26 #[.string ⟨nm.toArray⟩, v, .slice none 0 0, .slice none 0 0]) ∧ Hid (Bld clN wr b1 v M) ∧ Hid (b1 ≤ wr.heap.size) ∧ Hid (M.length = q) ∧ Hid ((bndP (repP clP (m1 - q) l kq) fun xs j => (.ok (M.map clC ++ xs, j) : PR (List _))) = repP clP m1 l k3)) (fun i _ => m1 - (intOf i).toNat)
  case atStart => exact ⟨0, [], k3, .slice none 0 0, by omega, rfl, HC3, HB3, hide (Bld.nil _ _ _), HL3, hide rfl, hide (rep_start _)⟩
  case round =>
    clear HC3 HB3 HL3
    obtain ⟨qq1, M, kq, v, hqq1, rfl, HC101, HB101, HD101, HL101, HML, HRP⟩ := hrel
    by_cases hlt : qq1 < m1
    · have i1 : ((qq1 : Nat) : Int) < ((m1 : Nat) : Int) := by omega
      obtain ⟨r, HRE⟩ : ∃ r, Hid (m1 - qq1 = r + 1) := ⟨m1 - qq1 - 1, hide (by omega)⟩
      obtain ⟨va, vc, rfl⟩ := (unhide HD101).slice
      have HVL : Hid (∀ x, (Value.slice va M.length vc).ownBlock = some x → b1 ≤ x) := hide (fun x e => (World.ownsRow.lt (unhide HD101).own x e).1)
      rw [unhide HRE] at HRP
      go_upto_region 4 with fail
      refine wp_region_held_drew (S := fun w' => Bx w' w.heap.size 112 #[.pointer (some ⟨p, 0, none⟩), .int .i64 (l.length : Int)]) mixed ((unhide HC101).below (Below.drew (Below.refl _ _))).bx (fun hS => ?_)
      have HC102 := hide ((unhide HC101).below (Below.drew (Below.refl _ _)))
      have HB102 := hide ((unhide HB101).below (Below.drew (Below.refl _ _)))
      have HD102 := hide ((unhide HD101).below (Below.drew (Below.refl _ _)))
      have HL102 : Hid (b1 ≤ wr.drew.heap.size) := hide (unhide HL101)
      clear HC101 HB101 HD101 HL101
      generalize wr.drew = Wd at hS HC102 HB102 HD102 HL102 ⊢
      refine wpAnyH_take (i := 0) (v := .pointer (some ⟨gc, 1, none⟩)) rfl (by kernel_rfl) (by kernel_rfl) (by kernel_rfl) (fun _ _ _ h => h) (Or.inl ⟨by rfl, fun W _ => by go_simp⟩) hS ?_
      go_simp
      refine wpAnyH_take (i := 2) (v := .agg #[.pointer (some ⟨p, 0, none⟩), .int .i64 (l.length : Int)]) rfl (by kernel_rfl) (by kernel_rfl) (by kernel_rfl) (fun _ _ _ h => h) (Or.inl ⟨by rfl, fun W h => by have h0 := h.c 0 rfl; have h1 := h.c 1 rfl; go_simp⟩) hS ?_
      go_simp
      refine wpAnyH_ready (rs := [1, 3]) (by kernel_rfl) (by simp) ?_
      refine AllReadyH.cons rfl (fun KK hK => ?_) ?_
      · have q2 := (unhide HB102).c 1 rfl
        go_simp
        refine hK.out _ _ (unhide HC102).bx (fun hS => ?_)
        clear hK KK q2
        refine wpAnyH_ready (rs := [3]) (by kernel_rfl) (by simp) ?_
        refine AllReadyH.cons rfl (fun KK hK => ?_) AllReadyH.nil
        go_simp
        have HK := hide (rclass (unhide HC102).rd)
        refine (unhide HK).mono ?_
        rintro e W104 (⟨z, kt, v, hm, rfl, ⟨y, rfl, hyc, hyo, hya⟩, hr, hg⟩ | ⟨a, er, hm, rfl, hg⟩)
        rotate_left
        · exact ⟨rfl, Or.inr ⟨_, _, by rw [mdP, unhide HNM]; show bndP (coP 32 l k1') _ = _; rw [unhide HCO1]; show bndP (repP clP m1 l k3) _ = _; rw [← unhide HRP, rep_no _ hm]; rfl, rfl, grown_trans (unhide HC102).gr hg⟩⟩
        have HYC := hide hyc
        have HYO := hide hyo
        have HYL : Hid (clN.all (fun b => b1 ≤ b) y) := hide (clN.mono (fun b hb => Nat.le_trans (unhide HL102) hb) hya)
        have HYN : Hid (∀ x, (Value.slice va M.length vc).ownBlock = some x → clN.all (fun b => b ≠ x) y) := hide (fun x e => clN.mono (fun b hb => by have := (World.ownsRow.lt (unhide HD102).own x e).2; omega) hya)
        have HC104 := hide ((unhide HC102).step hr hg)
        have HB104 := hide (box_step (unhide HB102) hg (by have := (unhide HLO).1; omega))
        have HD104 := hide ((unhide HD102).box hg (by have := (unhide HLO); have := unhide HLO1; omega))
        have HL104 : Hid (b1 ≤ W104.heap.size) := hide (Nat.le_trans (unhide HL102) hg.size)
        have HFD := hide hm
        refine hK.out _ _ (unhide HC104).bx (fun hS => ?_)
        clear hK KK HK hm hr hg hyc hyo hya HC102 HB102 HD102 HL102
        refine wpAnyH_ready (rs := [4]) (by kernel_rfl) (by simp) ?_
        refine AllReadyH.cons rfl (fun KK hK => ?_) AllReadyH.nil
        go_simp
        have HA105 : Hid (C0 w (W104.alloc (.cells #[.string y.nm, .int .i64 y.par, .slice y.fo y.fs.length y.fc] 80)) p g cap l kt 26 #[.string ⟨#[]⟩, .slice none 0 0, .slice none 0 0, .slice none 0 0]) := hide ((unhide HC104).below ((Below.refl _ _).alloc (Nat.le_refl _) _))
        have HBA105 := hide ((unhide HB104).below ((Below.refl W104.heap.size W104).alloc (Nat.le_refl _) (.cells #[.string y.nm, .int .i64 y.par, .slice y.fo y.fs.length y.fc] 80)))
        refine hK.out _ _ (unhide HA105).bx (fun hS => ?_)
        clear hK KK
        refine wpAnyH_ready (rs := [5]) (by kernel_rfl) (by simp) ?_
        refine AllReadyH.cons rfl (fun KK hK => ?_) AllReadyH.nil
        refine step_append_lies _ (by rfl) _ _ 22 (by rfl) b1 80 in1 _ 3 48 Tryz.underlying22 hi1 hz10 hz11 hz12 rfl (by omega) (.slice va M.length vc) M.length (vals clN M) (by rfl) (rowBelow (unhide HD104).own ((Below.refl _ _).alloc (Nat.le_refl _) _)) ⟨W104.heap.size, 0, none⟩ 1 1 (clN.cells y) (by rfl) (by rfl) (World.news_of_block (cs := #[.string y.nm, .int .i64 y.par, .slice y.fo y.fs.length y.fc]) (t := 80) (fr := (0, 0)) (heap_alloc_new W104 _)) (fun u hu => by simp [clN] at hu; rcases hu with rfl | rfl | rfl <;> rfl) (by omega) (by have := unhide HML; have := unhide HM1; unfold maxLen; omega) (by have := unhide HML; have := unhide HM1; omega) (by rw [World.size_alloc]; have := unhide HL104; omega) (W104.heap.size + 1) (by simp) ?_
        intro g3 cap3 W106 hown hgrow hat hlt3
        have al : Below W104.heap.size W104 (W104.alloc (.cells #[.string y.nm, .int .i64 y.par, .slice y.fo y.fs.length y.fc] 80)) := (Below.refl _ _).alloc (Nat.le_refl _) _
        have HD106 : Hid (Bld clN W106 b1 (.slice (some ⟨g3, 0, none⟩) (M.length + 1) cap3) (M ++ [y])) := hide ((unhide HD104).snoc (y := y) (unhide HYO) (unhide HYL) (unhide HYN) hown hgrow hat)
        have HC106 := hide (((unhide HC104).below al).row hgrow (fun x e => by have := unhide HVL x e; have := unhide HLO; have := unhide HLO1; omega) hgl)
        have HB106 := hide (((unhide HB104).below al).grown hgrow (fun e => by have := unhide HVL gc e; have := unhide HLO; have := unhide HLO1; omega))
        have HL106 : Hid (b1 ≤ W106.heap.size) := hide (by have := hgrow.size; rw [World.size_alloc] at this; have := unhide HL104; omega)
        refine hK.out _ _ (unhide HC106).bx (fun hS => ?_)
        clear hK KK hown hgrow hat hlt3 al HC104 HB104 HD104 HL104
        refine wpAnyH_take (i := 6) (v := .pointer (some ⟨gc, 1, none⟩)) rfl (by kernel_rfl) (by kernel_rfl) (by kernel_rfl) (fun _ _ _ h => h) (Or.inl ⟨by rfl, fun W _ => by go_simp⟩) hS ?_
        go_simp
        refine wpAnyH_ready (rs := [7]) (by kernel_rfl) (by simp) ?_
        refine AllReadyH.cons rfl (fun KK hK => ?_) AllReadyH.nil
        have q2 := (unhide HB106).c 1 rfl
        have f2 := (unhide HB106).f 1
        go_simp
        have hgs := grownBy_set W106 gc 1 (.slice (some ⟨g3, 0, none⟩) (M.length + 1) cap3)
        have HCn := hide ((unhide HC106).own hgs (unhide HLO).1 (by have := (unhide HLO).1; omega))
        have HBn : Hid (Bx (W106.setCell ⟨gc, 1, none⟩ (.slice (some ⟨g3, 0, none⟩) (M.length + 1) cap3)) gc 26 #[.string ⟨nm.toArray⟩, .slice (some ⟨g3, 0, none⟩) (M.length + 1) cap3, .slice none 0 0, .slice none 0 0]) := hide ((unhide HB106).set 1 _ rfl)
        have HDn := hide ((unhide HD106).box hgs (by have := unhide HLO; have := unhide HLO1; omega))
        have HLn : Hid (b1 ≤ (W106.setCell ⟨gc, 1, none⟩ (.slice (some ⟨g3, 0, none⟩) (M.length + 1) cap3)).heap.size) := hide (Nat.le_trans (unhide HL106) hgs.size)
        have HMn : Hid ((M ++ [y]).length = qq1 + 1) := hide (by rw [List.length_append, unhide HML]; rfl)
        have HRn : Hid ((bndP (repP clP (m1 - (qq1 + 1)) l kt) fun xs j => (.ok ((M ++ [y]).map clC ++ xs, j) : PR (List _))) = repP clP m1 l k3) := hide (by
          rw [← unhide HRP, rep_ok (M.map clC) (unhide HFD), show m1 - (qq1 + 1) = r by have := unhide HRE; omega, List.map_append, List.map_cons, List.map_nil, unhide HYC])
        clear q2 f2 hgs HC106 HB106 HD106 HL106 HRP HML
        refine hK.out _ _ (unhide HCn).bx (fun hS => ?_)
        clear hK KK hS
        refine wpAnyH_done (by kernel_rfl) ?_ _
        go_wp2
        go_roundw
        case rel => exact ⟨qq1 + 1, _, kt, _, by omega, by go_num, HCn, HBn, HDn, HLn, HMn, HRn⟩
        case measure => simp [intOf]; omega
      · refine AllReadyH.cons rfl (fun KK hK => ?_) AllReadyH.nil
        go_simp
        have HK := hide (rclass (unhide HC102).rd)
        refine (unhide HK).mono ?_
        rintro e W107 (⟨z, kt, v, hm, rfl, ⟨y, rfl, hyc, hyo, hya⟩, hr, hg⟩ | ⟨a, er, hm, rfl, hg⟩)
        rotate_left
        · exact ⟨rfl, Or.inr ⟨_, _, by rw [mdP, unhide HNM]; show bndP (coP 32 l k1') _ = _; rw [unhide HCO1]; show bndP (repP clP m1 l k3) _ = _; rw [← unhide HRP, rep_no _ hm]; rfl, rfl, grown_trans (unhide HC102).gr hg⟩⟩
        have HYC := hide hyc
        have HYO := hide hyo
        have HYL : Hid (clN.all (fun b => b1 ≤ b) y) := hide (clN.mono (fun b hb => Nat.le_trans (unhide HL102) hb) hya)
        have HYN : Hid (∀ x, (Value.slice va M.length vc).ownBlock = some x → clN.all (fun b => b ≠ x) y) := hide (fun x e => clN.mono (fun b hb => by have := (World.ownsRow.lt (unhide HD102).own x e).2; omega) hya)
        have HC107 := hide ((unhide HC102).step hr hg)
        have HB107 := hide (box_step (unhide HB102) hg (by have := (unhide HLO).1; omega))
        have HD107 := hide ((unhide HD102).box hg (by have := (unhide HLO); have := unhide HLO1; omega))
        have HL107 : Hid (b1 ≤ W107.heap.size) := hide (Nat.le_trans (unhide HL102) hg.size)
        have HFD := hide hm
        refine hK.out _ _ (unhide HC107).bx (fun hS => ?_)
        clear hK KK HK hm hr hg hyc hyo hya HC102 HB102 HD102 HL102
        refine wpAnyH_ready (rs := [1, 4]) (by kernel_rfl) (by simp) ?_
        refine AllReadyH.cons rfl (fun KK hK => ?_) ?_
        · have q2 := (unhide HB107).c 1 rfl
          go_simp
          refine hK.out _ _ (unhide HC107).bx (fun hS => ?_)
          clear hK KK q2
          refine wpAnyH_ready (rs := [4]) (by kernel_rfl) (by simp) ?_
          refine AllReadyH.cons rfl (fun KK hK => ?_) AllReadyH.nil
          go_simp
          have HA109 : Hid (C0 w (W107.alloc (.cells #[.string y.nm, .int .i64 y.par, .slice y.fo y.fs.length y.fc] 80)) p g cap l kt 26 #[.string ⟨#[]⟩, .slice none 0 0, .slice none 0 0, .slice none 0 0]) := hide ((unhide HC107).below ((Below.refl _ _).alloc (Nat.le_refl _) _))
          have HBA109 := hide ((unhide HB107).below ((Below.refl W107.heap.size W107).alloc (Nat.le_refl _) (.cells #[.string y.nm, .int .i64 y.par, .slice y.fo y.fs.length y.fc] 80)))
          refine hK.out _ _ (unhide HA109).bx (fun hS => ?_)
          clear hK KK
          refine wpAnyH_ready (rs := [5]) (by kernel_rfl) (by simp) ?_
          refine AllReadyH.cons rfl (fun KK hK => ?_) AllReadyH.nil
          refine step_append_lies _ (by rfl) _ _ 22 (by rfl) b1 80 in1 _ 3 48 Tryz.underlying22 hi1 hz10 hz11 hz12 rfl (by omega) (.slice va M.length vc) M.length (vals clN M) (by rfl) (rowBelow (unhide HD107).own ((Below.refl _ _).alloc (Nat.le_refl _) _)) ⟨W107.heap.size, 0, none⟩ 1 1 (clN.cells y) (by rfl) (by rfl) (World.news_of_block (cs := #[.string y.nm, .int .i64 y.par, .slice y.fo y.fs.length y.fc]) (t := 80) (fr := (0, 0)) (heap_alloc_new W107 _)) (fun u hu => by simp [clN] at hu; rcases hu with rfl | rfl | rfl <;> rfl) (by omega) (by have := unhide HML; have := unhide HM1; unfold maxLen; omega) (by have := unhide HML; have := unhide HM1; omega) (by rw [World.size_alloc]; have := unhide HL107; omega) (W107.heap.size + 1) (by simp) ?_
          intro g3 cap3 W110 hown hgrow hat hlt3
          have al : Below W107.heap.size W107 (W107.alloc (.cells #[.string y.nm, .int .i64 y.par, .slice y.fo y.fs.length y.fc] 80)) := (Below.refl _ _).alloc (Nat.le_refl _) _
          have HD110 : Hid (Bld clN W110 b1 (.slice (some ⟨g3, 0, none⟩) (M.length + 1) cap3) (M ++ [y])) := hide ((unhide HD107).snoc (y := y) (unhide HYO) (unhide HYL) (unhide HYN) hown hgrow hat)
          have HC110 := hide (((unhide HC107).below al).row hgrow (fun x e => by have := unhide HVL x e; have := unhide HLO; have := unhide HLO1; omega) hgl)
          have HB110 := hide (((unhide HB107).below al).grown hgrow (fun e => by have := unhide HVL gc e; have := unhide HLO; have := unhide HLO1; omega))
          have HL110 : Hid (b1 ≤ W110.heap.size) := hide (by have := hgrow.size; rw [World.size_alloc] at this; have := unhide HL107; omega)
          refine hK.out _ _ (unhide HC110).bx (fun hS => ?_)
          clear hK KK hown hgrow hat hlt3 al HC107 HB107 HD107 HL107
          refine wpAnyH_take (i := 6) (v := .pointer (some ⟨gc, 1, none⟩)) rfl (by kernel_rfl) (by kernel_rfl) (by kernel_rfl) (fun _ _ _ h => h) (Or.inl ⟨by rfl, fun W _ => by go_simp⟩) hS ?_
          go_simp
          refine wpAnyH_ready (rs := [7]) (by kernel_rfl) (by simp) ?_
          refine AllReadyH.cons rfl (fun KK hK => ?_) AllReadyH.nil
          have q2 := (unhide HB110).c 1 rfl
          have f2 := (unhide HB110).f 1
          go_simp
          have hgs := grownBy_set W110 gc 1 (.slice (some ⟨g3, 0, none⟩) (M.length + 1) cap3)
          have HCn := hide ((unhide HC110).own hgs (unhide HLO).1 (by have := (unhide HLO).1; omega))
          have HBn : Hid (Bx (W110.setCell ⟨gc, 1, none⟩ (.slice (some ⟨g3, 0, none⟩) (M.length + 1) cap3)) gc 26 #[.string ⟨nm.toArray⟩, .slice (some ⟨g3, 0, none⟩) (M.length + 1) cap3, .slice none 0 0, .slice none 0 0]) := hide ((unhide HB110).set 1 _ rfl)
          have HDn := hide ((unhide HD110).box hgs (by have := unhide HLO; have := unhide HLO1; omega))
          have HLn : Hid (b1 ≤ (W110.setCell ⟨gc, 1, none⟩ (.slice (some ⟨g3, 0, none⟩) (M.length + 1) cap3)).heap.size) := hide (Nat.le_trans (unhide HL110) hgs.size)
          have HMn : Hid ((M ++ [y]).length = qq1 + 1) := hide (by rw [List.length_append, unhide HML]; rfl)
          have HRn : Hid ((bndP (repP clP (m1 - (qq1 + 1)) l kt) fun xs j => (.ok ((M ++ [y]).map clC ++ xs, j) : PR (List _))) = repP clP m1 l k3) := hide (by
            rw [← unhide HRP, rep_ok (M.map clC) (unhide HFD), show m1 - (qq1 + 1) = r by have := unhide HRE; omega, List.map_append, List.map_cons, List.map_nil, unhide HYC])
          clear q2 f2 hgs HC110 HB110 HD110 HL110 HRP HML
          refine hK.out _ _ (unhide HCn).bx (fun hS => ?_)
          clear hK KK hS
          refine wpAnyH_done (by kernel_rfl) ?_ _
          go_wp2
          go_roundw
          case rel => exact ⟨qq1 + 1, _, kt, _, by omega, by go_num, HCn, HBn, HDn, HLn, HMn, HRn⟩
          case measure => simp [intOf]; omega
        · refine AllReadyH.cons rfl (fun KK hK => ?_) AllReadyH.nil
          go_simp
          have HA111 : Hid (C0 w (W107.alloc (.cells #[.string y.nm, .int .i64 y.par, .slice y.fo y.fs.length y.fc] 80)) p g cap l kt 26 #[.string ⟨#[]⟩, .slice none 0 0, .slice none 0 0, .slice none 0 0]) := hide ((unhide HC107).below ((Below.refl _ _).alloc (Nat.le_refl _) _))
          have HBA111 := hide ((unhide HB107).below ((Below.refl W107.heap.size W107).alloc (Nat.le_refl _) (.cells #[.string y.nm, .int .i64 y.par, .slice y.fo y.fs.length y.fc] 80)))
          refine hK.out _ _ (unhide HA111).bx (fun hS => ?_)
          clear hK KK
          refine wpAnyH_ready (rs := [1]) (by kernel_rfl) (by simp) ?_
          refine AllReadyH.cons rfl (fun KK hK => ?_) AllReadyH.nil
          have q2 := (unhide HBA111).c 1 rfl
          go_simp
          refine hK.out _ _ (unhide HA111).bx (fun hS => ?_)
          clear hK KK q2
          refine wpAnyH_ready (rs := [5]) (by kernel_rfl) (by simp) ?_
          refine AllReadyH.cons rfl (fun KK hK => ?_) AllReadyH.nil
          refine step_append_lies _ (by rfl) _ _ 22 (by rfl) b1 80 in1 _ 3 48 Tryz.underlying22 hi1 hz10 hz11 hz12 rfl (by omega) (.slice va M.length vc) M.length (vals clN M) (by rfl) (rowBelow (unhide HD107).own ((Below.refl _ _).alloc (Nat.le_refl _) _)) ⟨W107.heap.size, 0, none⟩ 1 1 (clN.cells y) (by rfl) (by rfl) (World.news_of_block (cs := #[.string y.nm, .int .i64 y.par, .slice y.fo y.fs.length y.fc]) (t := 80) (fr := (0, 0)) (heap_alloc_new W107 _)) (fun u hu => by simp [clN] at hu; rcases hu with rfl | rfl | rfl <;> rfl) (by omega) (by have := unhide HML; have := unhide HM1; unfold maxLen; omega) (by have := unhide HML; have := unhide HM1; omega) (by rw [World.size_alloc]; have := unhide HL107; omega) (W107.heap.size + 1) (by simp) ?_
          intro g3 cap3 W113 hown hgrow hat hlt3
          have al : Below W107.heap.size W107 (W107.alloc (.cells #[.string y.nm, .int .i64 y.par, .slice y.fo y.fs.length y.fc] 80)) := (Below.refl _ _).alloc (Nat.le_refl _) _
          have HD113 : Hid (Bld clN W113 b1 (.slice (some ⟨g3, 0, none⟩) (M.length + 1) cap3) (M ++ [y])) := hide ((unhide HD107).snoc (y := y) (unhide HYO) (unhide HYL) (unhide HYN) hown hgrow hat)
          have HC113 := hide (((unhide HC107).below al).row hgrow (fun x e => by have := unhide HVL x e; have := unhide HLO; have := unhide HLO1; omega) hgl)
          have HB113 := hide (((unhide HB107).below al).grown hgrow (fun e => by have := unhide HVL gc e; have := unhide HLO; have := unhide HLO1; omega))
          have HL113 : Hid (b1 ≤ W113.heap.size) := hide (by have := hgrow.size; rw [World.size_alloc] at this; have := unhide HL107; omega)
          refine hK.out _ _ (unhide HC113).bx (fun hS => ?_)
          clear hK KK hown hgrow hat hlt3 al HC107 HB107 HD107 HL107
          refine wpAnyH_take (i := 6) (v := .pointer (some ⟨gc, 1, none⟩)) rfl (by kernel_rfl) (by kernel_rfl) (by kernel_rfl) (fun _ _ _ h => h) (Or.inl ⟨by rfl, fun W _ => by go_simp⟩) hS ?_
          go_simp
          refine wpAnyH_ready (rs := [7]) (by kernel_rfl) (by simp) ?_
          refine AllReadyH.cons rfl (fun KK hK => ?_) AllReadyH.nil
          have q2 := (unhide HB113).c 1 rfl
          have f2 := (unhide HB113).f 1
          go_simp
          have hgs := grownBy_set W113 gc 1 (.slice (some ⟨g3, 0, none⟩) (M.length + 1) cap3)
          have HCn := hide ((unhide HC113).own hgs (unhide HLO).1 (by have := (unhide HLO).1; omega))
          have HBn : Hid (Bx (W113.setCell ⟨gc, 1, none⟩ (.slice (some ⟨g3, 0, none⟩) (M.length + 1) cap3)) gc 26 #[.string ⟨nm.toArray⟩, .slice (some ⟨g3, 0, none⟩) (M.length + 1) cap3, .slice none 0 0, .slice none 0 0]) := hide ((unhide HB113).set 1 _ rfl)
          have HDn := hide ((unhide HD113).box hgs (by have := unhide HLO; have := unhide HLO1; omega))
          have HLn : Hid (b1 ≤ (W113.setCell ⟨gc, 1, none⟩ (.slice (some ⟨g3, 0, none⟩) (M.length + 1) cap3)).heap.size) := hide (Nat.le_trans (unhide HL113) hgs.size)
          have HMn : Hid ((M ++ [y]).length = qq1 + 1) := hide (by rw [List.length_append, unhide HML]; rfl)
          have HRn : Hid ((bndP (repP clP (m1 - (qq1 + 1)) l kt) fun xs j => (.ok ((M ++ [y]).map clC ++ xs, j) : PR (List _))) = repP clP m1 l k3) := hide (by
            rw [← unhide HRP, rep_ok (M.map clC) (unhide HFD), show m1 - (qq1 + 1) = r by have := unhide HRE; omega, List.map_append, List.map_cons, List.map_nil, unhide HYC])
          clear q2 f2 hgs HC113 HB113 HD113 HL113 HRP HML
          refine hK.out _ _ (unhide HCn).bx (fun hS => ?_)
          clear hK KK hS
          refine wpAnyH_done (by kernel_rfl) ?_ _
          go_wp2
          go_roundw
          case rel => exact ⟨qq1 + 1, _, kt, _, by omega, by go_num, HCn, HBn, HDn, HLn, HMn, HRn⟩
          case measure => simp [intOf]; omega
    · have i1 : ¬ ((qq1 : Nat) : Int) < ((m1 : Nat) : Int) := by omega
      have hqm : qq1 = m1 := by omega
      have HRR1 : Hid (repP clP m1 l k3 = .ok (M.map clC, kq)) := hide (by rw [← unhide HRP, hqm, Nat.sub_self]; exact rep_end _)
      obtain ⟨xa, xc, hv, hrow, hall, hnil, hcap⟩ := (unhide HD101).outC
      subst hv
      clear HRP
      obtain ⟨ta, HE1⟩ : ∃ t, t = xa := ⟨_, rfl⟩
      obtain ⟨tc, HE2⟩ : ∃ t, t = xc := ⟨_, rfl⟩
      obtain ⟨T, HE3⟩ : ∃ t, t = M := ⟨_, rfl⟩
      obtain ⟨kc, HE4⟩ : ∃ t, t = kq := ⟨_, rfl⟩
      subst HE1 HE2 HE3 HE4
      have HTL := hide (unhide HML)
      have hTm : Hid (T.length ≤ m1) := hide (by have := unhide HML; omega)
      have HCT := hide hcap
      clear HML
      have k0 := (unhide HC101).bx.c 0 rfl
      have k1 := (unhide HC101).bx.c 1 rfl
      have HK := hide (rcount (unhide HC101).rd 64)
      go_wp2_with fail
      refine (unhide HK).mono ?_
      rintro e W6 (⟨m2, kd, v, hm, rfl, ⟨rfl, hm8⟩, hr, hg⟩ | ⟨a, er, hm, rfl, hg⟩)
      rotate_left
      · exact ⟨rfl, Or.inr ⟨_, _, by rw [mdP, unhide HNM]; show bndP (coP 32 l k1') _ = _; rw [unhide HCO1]; show bndP (repP clP m1 l k3) _ = _; rw [unhide HRR1]; show bndP (coP 64 l kc) _ = _; rw [hm]; rfl, rfl, grown_trans (unhide HC101).gr hg⟩⟩
      have HCO2 := hide hm
      have HC6 := hide ((unhide HC101).step hr hg)
      have HB6 := hide (box_step (unhide HB101) hg (by have := (unhide HLO).1; omega))
      have hrow6 := hrow.far hg (RowAll.mono (fun b hb => by have := unhide HLO; omega) hall)
      obtain ⟨b2, HBS⟩ : ∃ b2, b2 = W6.heap.size := ⟨_, rfl⟩
      have HLO2 : Hid (b1 ≤ b2) := hide (by have := unhide HL101; have := hg.size; omega)
      have HAT : Hid (RowAll clN (fun b => b1 ≤ b ∧ b < b2) ta T) := hide (hrow6.span hall (by omega) cl_both)
      have HRT6 := hide hrow6
      have HL6 : Hid (b2 ≤ W6.heap.size) := hide (by omega)
      have HM2 : Hid (m2 ≤ 64) := hide (co_le hm)
      clear hm hr hg HK k0 k1 HC101 HB101 HD101 HL101 hrow hall hrow6 HBS hnil hcap
      go_wp2_with fail
      go_loopw [21] (fun i wr => ∃ (q : Nat) (M : List Fn) (kq : Nat) (v : Value), q ≤ m2 ∧ i = .int .i64 (q : Int) ∧ Hid (C0 w wr p g cap l kq 26 #[.string ⟨#[]⟩, .slice none 0 0, .slice none 0 0, .slice none 0 0]) ∧ Hid (Bx wr gc 26 #[.string ⟨nm.toArray⟩, .slice ta T.length tc, v, .slice none 0 0]) ∧ Hid (Bld fnN wr b2 v M) ∧ Hid (b2 ≤ wr.heap.size) ∧ Hid (M.length = q) ∧ Hid ((bndP (repP fnP (m2 - q) l kq) fun xs j => (.ok (M.map fnC ++ xs, j) : PR (List _))) = repP fnP m2 l kd) ∧ Hid (RowAt clN wr ta T)) (fun i _ => m2 - (intOf i).toNat)
      case atStart => exact ⟨0, [], kd, .slice none 0 0, by omega, rfl, HC6, HB6, hide (Bld.nil _ _ _), HL6, hide rfl, hide (rep_start _), HRT6⟩
      case round =>
        clear HC6 HB6 HL6 HRT6
        obtain ⟨qq2, M, kq, v, hqq2, rfl, HC114, HB114, HD114, HL114, HML, HRP, HRT114⟩ := hrel
        by_cases hlt : qq2 < m2
        · have i1 : ((qq2 : Nat) : Int) < ((m2 : Nat) : Int) := by omega
          obtain ⟨r, HRE⟩ : ∃ r, Hid (m2 - qq2 = r + 1) := ⟨m2 - qq2 - 1, hide (by omega)⟩
          obtain ⟨va, vc, rfl⟩ := (unhide HD114).slice
          have HVL : Hid (∀ x, (Value.slice va M.length vc).ownBlock = some x → b2 ≤ x) := hide (fun x e => (World.ownsRow.lt (unhide HD114).own x e).1)
          rw [unhide HRE] at HRP
          go_upto_region 8 with fail
          refine wp_region_held_drew (S := fun w' => Bx w' w.heap.size 112 #[.pointer (some ⟨p, 0, none⟩), .int .i64 (l.length : Int)]) mixed ((unhide HC114).below (Below.drew (Below.refl _ _))).bx (fun hS => ?_)
          have HC115 := hide ((unhide HC114).below (Below.drew (Below.refl _ _)))
          have HB115 := hide ((unhide HB114).below (Below.drew (Below.refl _ _)))
          have HD115 := hide ((unhide HD114).below (Below.drew (Below.refl _ _)))
          have HL115 : Hid (b2 ≤ wr.drew.heap.size) := hide (unhide HL114)
          have HRT115 := hide ((unhide HRT114).below (Below.drew (Below.refl _ _)))
          clear HC114 HB114 HD114 HL114 HRT114
          generalize wr.drew = Wd at hS HC115 HB115 HD115 HL115 HRT115 ⊢
          refine wpAnyH_take (i := 0) (v := .pointer (some ⟨gc, 2, none⟩)) rfl (by kernel_rfl) (by kernel_rfl) (by kernel_rfl) (fun _ _ _ h => h) (Or.inl ⟨by rfl, fun W _ => by go_simp⟩) hS ?_
          go_simp
          refine wpAnyH_take (i := 2) (v := .agg #[.pointer (some ⟨p, 0, none⟩), .int .i64 (l.length : Int)]) rfl (by kernel_rfl) (by kernel_rfl) (by kernel_rfl) (fun _ _ _ h => h) (Or.inl ⟨by rfl, fun W h => by have h0 := h.c 0 rfl; have h1 := h.c 1 rfl; go_simp⟩) hS ?_
          go_simp
          refine wpAnyH_ready (rs := [1, 3]) (by kernel_rfl) (by simp) ?_
          refine AllReadyH.cons rfl (fun KK hK => ?_) ?_
          · have q2 := (unhide HB115).c 2 rfl
            go_simp
            refine hK.out _ _ (unhide HC115).bx (fun hS => ?_)
            clear hK KK q2
            refine wpAnyH_ready (rs := [3]) (by kernel_rfl) (by simp) ?_
            refine AllReadyH.cons rfl (fun KK hK => ?_) AllReadyH.nil
            go_simp
            have HK := hide (rfunction (unhide HC115).rd)
            refine (unhide HK).mono ?_
            rintro e W117 (⟨z, kt, v, hm, rfl, ⟨y, rfl, hyc, hyo, hya⟩, hr, hg⟩ | ⟨a, er, hm, rfl, hg⟩)
            rotate_left
            · exact ⟨rfl, Or.inr ⟨_, _, by rw [mdP, unhide HNM]; show bndP (coP 32 l k1') _ = _; rw [unhide HCO1]; show bndP (repP clP m1 l k3) _ = _; rw [unhide HRR1]; show bndP (coP 64 l kc) _ = _; rw [unhide HCO2]; show bndP (repP fnP m2 l kd) _ = _; rw [← unhide HRP, rep_no _ hm]; rfl, rfl, grown_trans (unhide HC115).gr hg⟩⟩
            have HYC := hide hyc
            have HYO := hide hyo
            have HYL : Hid (fnN.all (fun b => b2 ≤ b) y) := hide (fnN.mono (fun b hb => Nat.le_trans (unhide HL115) hb) hya)
            have HYN : Hid (∀ x, (Value.slice va M.length vc).ownBlock = some x → fnN.all (fun b => b ≠ x) y) := hide (fun x e => fnN.mono (fun b hb => by have := (World.ownsRow.lt (unhide HD115).own x e).2; omega) hya)
            have HC117 := hide ((unhide HC115).step hr hg)
            have HB117 := hide (box_step (unhide HB115) hg (by have := (unhide HLO).1; omega))
            have HD117 := hide ((unhide HD115).box hg (by have := (unhide HLO); have := unhide HLO2; omega))
            have HL117 : Hid (b2 ≤ W117.heap.size) := hide (Nat.le_trans (unhide HL115) hg.size)
            have HFD := hide hm
            have HRT117 := hide ((unhide HRT115).keep hg (unhide HAT) (fun x e => by injection e with e; have := unhide HLO; have := unhide HLO2; omega))
            refine hK.out _ _ (unhide HC117).bx (fun hS => ?_)
            clear hK KK HK hm hr hg hyc hyo hya HC115 HB115 HD115 HL115 HRT115
            refine wpAnyH_ready (rs := [4]) (by kernel_rfl) (by simp) ?_
            refine AllReadyH.cons rfl (fun KK hK => ?_) AllReadyH.nil
            go_simp
            have HA118 : Hid (C0 w (W117.alloc (.cells #[.string y.nm, .slice y.sg.po y.sg.ps.length y.sg.pc, .int .u8 (y.sg.rt : Int), .int .i64 y.lo, .slice y.ca y.cd.length y.cc] 44)) p g cap l kt 26 #[.string ⟨#[]⟩, .slice none 0 0, .slice none 0 0, .slice none 0 0]) := hide ((unhide HC117).below ((Below.refl _ _).alloc (Nat.le_refl _) _))
            have HBA118 := hide ((unhide HB117).below ((Below.refl W117.heap.size W117).alloc (Nat.le_refl _) (.cells #[.string y.nm, .slice y.sg.po y.sg.ps.length y.sg.pc, .int .u8 (y.sg.rt : Int), .int .i64 y.lo, .slice y.ca y.cd.length y.cc] 44)))
            refine hK.out _ _ (unhide HA118).bx (fun hS => ?_)
            clear hK KK
            refine wpAnyH_ready (rs := [5]) (by kernel_rfl) (by simp) ?_
            refine AllReadyH.cons rfl (fun KK hK => ?_) AllReadyH.nil
            refine step_append_lies _ (by rfl) _ _ 23 (by rfl) b2 44 in2 _ 5 80 Tryz.underlying23 hi2 hz20 hz21 hz22 rfl (by omega) (.slice va M.length vc) M.length (vals fnN M) (by rfl) (rowBelow (unhide HD117).own ((Below.refl _ _).alloc (Nat.le_refl _) _)) ⟨W117.heap.size, 0, none⟩ 1 1 (fnN.cells y) (by rfl) (by rfl) (World.news_of_block (cs := #[.string y.nm, .slice y.sg.po y.sg.ps.length y.sg.pc, .int .u8 (y.sg.rt : Int), .int .i64 y.lo, .slice y.ca y.cd.length y.cc]) (t := 44) (fr := (0, 0)) (heap_alloc_new W117 _)) (fun u hu => by simp [fnN] at hu; rcases hu with rfl | rfl | rfl | rfl | rfl <;> rfl) (by omega) (by have := unhide HML; have := unhide HM2; unfold maxLen; omega) (by have := unhide HML; have := unhide HM2; omega) (by rw [World.size_alloc]; have := unhide HL117; omega) (W117.heap.size + 1) (by simp) ?_
            intro g3 cap3 W119 hown hgrow hat hlt3
            have al : Below W117.heap.size W117 (W117.alloc (.cells #[.string y.nm, .slice y.sg.po y.sg.ps.length y.sg.pc, .int .u8 (y.sg.rt : Int), .int .i64 y.lo, .slice y.ca y.cd.length y.cc] 44)) := (Below.refl _ _).alloc (Nat.le_refl _) _
            have HD119 : Hid (Bld fnN W119 b2 (.slice (some ⟨g3, 0, none⟩) (M.length + 1) cap3) (M ++ [y])) := hide ((unhide HD117).snoc (y := y) (unhide HYO) (unhide HYL) (unhide HYN) hown hgrow hat)
            have HC119 := hide (((unhide HC117).below al).row hgrow (fun x e => by have := unhide HVL x e; have := unhide HLO; have := unhide HLO2; omega) hgl)
            have HB119 := hide (((unhide HB117).below al).grown hgrow (fun e => by have := unhide HVL gc e; have := unhide HLO; have := unhide HLO2; omega))
            have HL119 : Hid (b2 ≤ W119.heap.size) := hide (by have := hgrow.size; rw [World.size_alloc] at this; have := unhide HL117; omega)
            have HRT119 := hide (((unhide HRT117).below al).keep hgrow (unhide HAT) (fun x e => by have := unhide HVL x e; have := unhide HLO; have := unhide HLO2; omega))
            refine hK.out _ _ (unhide HC119).bx (fun hS => ?_)
            clear hK KK hown hgrow hat hlt3 al HC117 HB117 HD117 HL117 HRT117
            refine wpAnyH_take (i := 6) (v := .pointer (some ⟨gc, 2, none⟩)) rfl (by kernel_rfl) (by kernel_rfl) (by kernel_rfl) (fun _ _ _ h => h) (Or.inl ⟨by rfl, fun W _ => by go_simp⟩) hS ?_
            go_simp
            refine wpAnyH_ready (rs := [7]) (by kernel_rfl) (by simp) ?_
            refine AllReadyH.cons rfl (fun KK hK => ?_) AllReadyH.nil
            have q2 := (unhide HB119).c 2 rfl
            have f2 := (unhide HB119).f 2
            go_simp
            have hgs := grownBy_set W119 gc 2 (.slice (some ⟨g3, 0, none⟩) (M.length + 1) cap3)
            have HCn := hide ((unhide HC119).own hgs (unhide HLO).1 (by have := (unhide HLO).1; omega))
            have HBn : Hid (Bx (W119.setCell ⟨gc, 2, none⟩ (.slice (some ⟨g3, 0, none⟩) (M.length + 1) cap3)) gc 26 #[.string ⟨nm.toArray⟩, .slice ta T.length tc, .slice (some ⟨g3, 0, none⟩) (M.length + 1) cap3, .slice none 0 0]) := hide ((unhide HB119).set 2 _ rfl)
            have HDn := hide ((unhide HD119).box hgs (by have := unhide HLO; have := unhide HLO2; omega))
            have HLn : Hid (b2 ≤ (W119.setCell ⟨gc, 2, none⟩ (.slice (some ⟨g3, 0, none⟩) (M.length + 1) cap3)).heap.size) := hide (Nat.le_trans (unhide HL119) hgs.size)
            have HMn : Hid ((M ++ [y]).length = qq2 + 1) := hide (by rw [List.length_append, unhide HML]; rfl)
            have HRn : Hid ((bndP (repP fnP (m2 - (qq2 + 1)) l kt) fun xs j => (.ok ((M ++ [y]).map fnC ++ xs, j) : PR (List _))) = repP fnP m2 l kd) := hide (by
              rw [← unhide HRP, rep_ok (M.map fnC) (unhide HFD), show m2 - (qq2 + 1) = r by have := unhide HRE; omega, List.map_append, List.map_cons, List.map_nil, unhide HYC])
            have HRTn := hide ((unhide HRT119).keep hgs (unhide HAT) (fun x e => by injection e with e; have := unhide HLO; have := unhide HLO2; omega))
            clear q2 f2 hgs HC119 HB119 HD119 HL119 HRT119 HRP HML
            refine hK.out _ _ (unhide HCn).bx (fun hS => ?_)
            clear hK KK hS
            refine wpAnyH_done (by kernel_rfl) ?_ _
            go_wp2
            go_roundw
            case rel => exact ⟨qq2 + 1, _, kt, _, by omega, by go_num, HCn, HBn, HDn, HLn, HMn, HRn, HRTn⟩
            case measure => simp [intOf]; omega
          · refine AllReadyH.cons rfl (fun KK hK => ?_) AllReadyH.nil
            go_simp
            have HK := hide (rfunction (unhide HC115).rd)
            refine (unhide HK).mono ?_
            rintro e W120 (⟨z, kt, v, hm, rfl, ⟨y, rfl, hyc, hyo, hya⟩, hr, hg⟩ | ⟨a, er, hm, rfl, hg⟩)
            rotate_left
            · exact ⟨rfl, Or.inr ⟨_, _, by rw [mdP, unhide HNM]; show bndP (coP 32 l k1') _ = _; rw [unhide HCO1]; show bndP (repP clP m1 l k3) _ = _; rw [unhide HRR1]; show bndP (coP 64 l kc) _ = _; rw [unhide HCO2]; show bndP (repP fnP m2 l kd) _ = _; rw [← unhide HRP, rep_no _ hm]; rfl, rfl, grown_trans (unhide HC115).gr hg⟩⟩
            have HYC := hide hyc
            have HYO := hide hyo
            have HYL : Hid (fnN.all (fun b => b2 ≤ b) y) := hide (fnN.mono (fun b hb => Nat.le_trans (unhide HL115) hb) hya)
            have HYN : Hid (∀ x, (Value.slice va M.length vc).ownBlock = some x → fnN.all (fun b => b ≠ x) y) := hide (fun x e => fnN.mono (fun b hb => by have := (World.ownsRow.lt (unhide HD115).own x e).2; omega) hya)
            have HC120 := hide ((unhide HC115).step hr hg)
            have HB120 := hide (box_step (unhide HB115) hg (by have := (unhide HLO).1; omega))
            have HD120 := hide ((unhide HD115).box hg (by have := (unhide HLO); have := unhide HLO2; omega))
            have HL120 : Hid (b2 ≤ W120.heap.size) := hide (Nat.le_trans (unhide HL115) hg.size)
            have HFD := hide hm
            have HRT120 := hide ((unhide HRT115).keep hg (unhide HAT) (fun x e => by injection e with e; have := unhide HLO; have := unhide HLO2; omega))
            refine hK.out _ _ (unhide HC120).bx (fun hS => ?_)
            clear hK KK HK hm hr hg hyc hyo hya HC115 HB115 HD115 HL115 HRT115
            refine wpAnyH_ready (rs := [1, 4]) (by kernel_rfl) (by simp) ?_
            refine AllReadyH.cons rfl (fun KK hK => ?_) ?_
            · have q2 := (unhide HB120).c 2 rfl
              go_simp
              refine hK.out _ _ (unhide HC120).bx (fun hS => ?_)
              clear hK KK q2
              refine wpAnyH_ready (rs := [4]) (by kernel_rfl) (by simp) ?_
              refine AllReadyH.cons rfl (fun KK hK => ?_) AllReadyH.nil
              go_simp
              have HA122 : Hid (C0 w (W120.alloc (.cells #[.string y.nm, .slice y.sg.po y.sg.ps.length y.sg.pc, .int .u8 (y.sg.rt : Int), .int .i64 y.lo, .slice y.ca y.cd.length y.cc] 44)) p g cap l kt 26 #[.string ⟨#[]⟩, .slice none 0 0, .slice none 0 0, .slice none 0 0]) := hide ((unhide HC120).below ((Below.refl _ _).alloc (Nat.le_refl _) _))
              have HBA122 := hide ((unhide HB120).below ((Below.refl W120.heap.size W120).alloc (Nat.le_refl _) (.cells #[.string y.nm, .slice y.sg.po y.sg.ps.length y.sg.pc, .int .u8 (y.sg.rt : Int), .int .i64 y.lo, .slice y.ca y.cd.length y.cc] 44)))
              refine hK.out _ _ (unhide HA122).bx (fun hS => ?_)
              clear hK KK
              refine wpAnyH_ready (rs := [5]) (by kernel_rfl) (by simp) ?_
              refine AllReadyH.cons rfl (fun KK hK => ?_) AllReadyH.nil
              refine step_append_lies _ (by rfl) _ _ 23 (by rfl) b2 44 in2 _ 5 80 Tryz.underlying23 hi2 hz20 hz21 hz22 rfl (by omega) (.slice va M.length vc) M.length (vals fnN M) (by rfl) (rowBelow (unhide HD120).own ((Below.refl _ _).alloc (Nat.le_refl _) _)) ⟨W120.heap.size, 0, none⟩ 1 1 (fnN.cells y) (by rfl) (by rfl) (World.news_of_block (cs := #[.string y.nm, .slice y.sg.po y.sg.ps.length y.sg.pc, .int .u8 (y.sg.rt : Int), .int .i64 y.lo, .slice y.ca y.cd.length y.cc]) (t := 44) (fr := (0, 0)) (heap_alloc_new W120 _)) (fun u hu => by simp [fnN] at hu; rcases hu with rfl | rfl | rfl | rfl | rfl <;> rfl) (by omega) (by have := unhide HML; have := unhide HM2; unfold maxLen; omega) (by have := unhide HML; have := unhide HM2; omega) (by rw [World.size_alloc]; have := unhide HL120; omega) (W120.heap.size + 1) (by simp) ?_
              intro g3 cap3 W123 hown hgrow hat hlt3
              have al : Below W120.heap.size W120 (W120.alloc (.cells #[.string y.nm, .slice y.sg.po y.sg.ps.length y.sg.pc, .int .u8 (y.sg.rt : Int), .int .i64 y.lo, .slice y.ca y.cd.length y.cc] 44)) := (Below.refl _ _).alloc (Nat.le_refl _) _
              have HD123 : Hid (Bld fnN W123 b2 (.slice (some ⟨g3, 0, none⟩) (M.length + 1) cap3) (M ++ [y])) := hide ((unhide HD120).snoc (y := y) (unhide HYO) (unhide HYL) (unhide HYN) hown hgrow hat)
              have HC123 := hide (((unhide HC120).below al).row hgrow (fun x e => by have := unhide HVL x e; have := unhide HLO; have := unhide HLO2; omega) hgl)
              have HB123 := hide (((unhide HB120).below al).grown hgrow (fun e => by have := unhide HVL gc e; have := unhide HLO; have := unhide HLO2; omega))
              have HL123 : Hid (b2 ≤ W123.heap.size) := hide (by have := hgrow.size; rw [World.size_alloc] at this; have := unhide HL120; omega)
              have HRT123 := hide (((unhide HRT120).below al).keep hgrow (unhide HAT) (fun x e => by have := unhide HVL x e; have := unhide HLO; have := unhide HLO2; omega))
              refine hK.out _ _ (unhide HC123).bx (fun hS => ?_)
              clear hK KK hown hgrow hat hlt3 al HC120 HB120 HD120 HL120 HRT120
              refine wpAnyH_take (i := 6) (v := .pointer (some ⟨gc, 2, none⟩)) rfl (by kernel_rfl) (by kernel_rfl) (by kernel_rfl) (fun _ _ _ h => h) (Or.inl ⟨by rfl, fun W _ => by go_simp⟩) hS ?_
              go_simp
              refine wpAnyH_ready (rs := [7]) (by kernel_rfl) (by simp) ?_
              refine AllReadyH.cons rfl (fun KK hK => ?_) AllReadyH.nil
              have q2 := (unhide HB123).c 2 rfl
              have f2 := (unhide HB123).f 2
              go_simp
              have hgs := grownBy_set W123 gc 2 (.slice (some ⟨g3, 0, none⟩) (M.length + 1) cap3)
              have HCn := hide ((unhide HC123).own hgs (unhide HLO).1 (by have := (unhide HLO).1; omega))
              have HBn : Hid (Bx (W123.setCell ⟨gc, 2, none⟩ (.slice (some ⟨g3, 0, none⟩) (M.length + 1) cap3)) gc 26 #[.string ⟨nm.toArray⟩, .slice ta T.length tc, .slice (some ⟨g3, 0, none⟩) (M.length + 1) cap3, .slice none 0 0]) := hide ((unhide HB123).set 2 _ rfl)
              have HDn := hide ((unhide HD123).box hgs (by have := unhide HLO; have := unhide HLO2; omega))
              have HLn : Hid (b2 ≤ (W123.setCell ⟨gc, 2, none⟩ (.slice (some ⟨g3, 0, none⟩) (M.length + 1) cap3)).heap.size) := hide (Nat.le_trans (unhide HL123) hgs.size)
              have HMn : Hid ((M ++ [y]).length = qq2 + 1) := hide (by rw [List.length_append, unhide HML]; rfl)
              have HRn : Hid ((bndP (repP fnP (m2 - (qq2 + 1)) l kt) fun xs j => (.ok ((M ++ [y]).map fnC ++ xs, j) : PR (List _))) = repP fnP m2 l kd) := hide (by
                rw [← unhide HRP, rep_ok (M.map fnC) (unhide HFD), show m2 - (qq2 + 1) = r by have := unhide HRE; omega, List.map_append, List.map_cons, List.map_nil, unhide HYC])
              have HRTn := hide ((unhide HRT123).keep hgs (unhide HAT) (fun x e => by injection e with e; have := unhide HLO; have := unhide HLO2; omega))
              clear q2 f2 hgs HC123 HB123 HD123 HL123 HRT123 HRP HML
              refine hK.out _ _ (unhide HCn).bx (fun hS => ?_)
              clear hK KK hS
              refine wpAnyH_done (by kernel_rfl) ?_ _
              go_wp2
              go_roundw
              case rel => exact ⟨qq2 + 1, _, kt, _, by omega, by go_num, HCn, HBn, HDn, HLn, HMn, HRn, HRTn⟩
              case measure => simp [intOf]; omega
            · refine AllReadyH.cons rfl (fun KK hK => ?_) AllReadyH.nil
              go_simp
              have HA124 : Hid (C0 w (W120.alloc (.cells #[.string y.nm, .slice y.sg.po y.sg.ps.length y.sg.pc, .int .u8 (y.sg.rt : Int), .int .i64 y.lo, .slice y.ca y.cd.length y.cc] 44)) p g cap l kt 26 #[.string ⟨#[]⟩, .slice none 0 0, .slice none 0 0, .slice none 0 0]) := hide ((unhide HC120).below ((Below.refl _ _).alloc (Nat.le_refl _) _))
              have HBA124 := hide ((unhide HB120).below ((Below.refl W120.heap.size W120).alloc (Nat.le_refl _) (.cells #[.string y.nm, .slice y.sg.po y.sg.ps.length y.sg.pc, .int .u8 (y.sg.rt : Int), .int .i64 y.lo, .slice y.ca y.cd.length y.cc] 44)))
              refine hK.out _ _ (unhide HA124).bx (fun hS => ?_)
              clear hK KK
              refine wpAnyH_ready (rs := [1]) (by kernel_rfl) (by simp) ?_
              refine AllReadyH.cons rfl (fun KK hK => ?_) AllReadyH.nil
              have q2 := (unhide HBA124).c 2 rfl
              go_simp
              refine hK.out _ _ (unhide HA124).bx (fun hS => ?_)
              clear hK KK q2
              refine wpAnyH_ready (rs := [5]) (by kernel_rfl) (by simp) ?_
              refine AllReadyH.cons rfl (fun KK hK => ?_) AllReadyH.nil
              refine step_append_lies _ (by rfl) _ _ 23 (by rfl) b2 44 in2 _ 5 80 Tryz.underlying23 hi2 hz20 hz21 hz22 rfl (by omega) (.slice va M.length vc) M.length (vals fnN M) (by rfl) (rowBelow (unhide HD120).own ((Below.refl _ _).alloc (Nat.le_refl _) _)) ⟨W120.heap.size, 0, none⟩ 1 1 (fnN.cells y) (by rfl) (by rfl) (World.news_of_block (cs := #[.string y.nm, .slice y.sg.po y.sg.ps.length y.sg.pc, .int .u8 (y.sg.rt : Int), .int .i64 y.lo, .slice y.ca y.cd.length y.cc]) (t := 44) (fr := (0, 0)) (heap_alloc_new W120 _)) (fun u hu => by simp [fnN] at hu; rcases hu with rfl | rfl | rfl | rfl | rfl <;> rfl) (by omega) (by have := unhide HML; have := unhide HM2; unfold maxLen; omega) (by have := unhide HML; have := unhide HM2; omega) (by rw [World.size_alloc]; have := unhide HL120; omega) (W120.heap.size + 1) (by simp) ?_
              intro g3 cap3 W126 hown hgrow hat hlt3
              have al : Below W120.heap.size W120 (W120.alloc (.cells #[.string y.nm, .slice y.sg.po y.sg.ps.length y.sg.pc, .int .u8 (y.sg.rt : Int), .int .i64 y.lo, .slice y.ca y.cd.length y.cc] 44)) := (Below.refl _ _).alloc (Nat.le_refl _) _
              have HD126 : Hid (Bld fnN W126 b2 (.slice (some ⟨g3, 0, none⟩) (M.length + 1) cap3) (M ++ [y])) := hide ((unhide HD120).snoc (y := y) (unhide HYO) (unhide HYL) (unhide HYN) hown hgrow hat)
              have HC126 := hide (((unhide HC120).below al).row hgrow (fun x e => by have := unhide HVL x e; have := unhide HLO; have := unhide HLO2; omega) hgl)
              have HB126 := hide (((unhide HB120).below al).grown hgrow (fun e => by have := unhide HVL gc e; have := unhide HLO; have := unhide HLO2; omega))
              have HL126 : Hid (b2 ≤ W126.heap.size) := hide (by have := hgrow.size; rw [World.size_alloc] at this; have := unhide HL120; omega)
              have HRT126 := hide (((unhide HRT120).below al).keep hgrow (unhide HAT) (fun x e => by have := unhide HVL x e; have := unhide HLO; have := unhide HLO2; omega))
              refine hK.out _ _ (unhide HC126).bx (fun hS => ?_)
              clear hK KK hown hgrow hat hlt3 al HC120 HB120 HD120 HL120 HRT120
              refine wpAnyH_take (i := 6) (v := .pointer (some ⟨gc, 2, none⟩)) rfl (by kernel_rfl) (by kernel_rfl) (by kernel_rfl) (fun _ _ _ h => h) (Or.inl ⟨by rfl, fun W _ => by go_simp⟩) hS ?_
              go_simp
              refine wpAnyH_ready (rs := [7]) (by kernel_rfl) (by simp) ?_
              refine AllReadyH.cons rfl (fun KK hK => ?_) AllReadyH.nil
              have q2 := (unhide HB126).c 2 rfl
              have f2 := (unhide HB126).f 2
              go_simp
              have hgs := grownBy_set W126 gc 2 (.slice (some ⟨g3, 0, none⟩) (M.length + 1) cap3)
              have HCn := hide ((unhide HC126).own hgs (unhide HLO).1 (by have := (unhide HLO).1; omega))
              have HBn : Hid (Bx (W126.setCell ⟨gc, 2, none⟩ (.slice (some ⟨g3, 0, none⟩) (M.length + 1) cap3)) gc 26 #[.string ⟨nm.toArray⟩, .slice ta T.length tc, .slice (some ⟨g3, 0, none⟩) (M.length + 1) cap3, .slice none 0 0]) := hide ((unhide HB126).set 2 _ rfl)
              have HDn := hide ((unhide HD126).box hgs (by have := unhide HLO; have := unhide HLO2; omega))
              have HLn : Hid (b2 ≤ (W126.setCell ⟨gc, 2, none⟩ (.slice (some ⟨g3, 0, none⟩) (M.length + 1) cap3)).heap.size) := hide (Nat.le_trans (unhide HL126) hgs.size)
              have HMn : Hid ((M ++ [y]).length = qq2 + 1) := hide (by rw [List.length_append, unhide HML]; rfl)
              have HRn : Hid ((bndP (repP fnP (m2 - (qq2 + 1)) l kt) fun xs j => (.ok ((M ++ [y]).map fnC ++ xs, j) : PR (List _))) = repP fnP m2 l kd) := hide (by
                rw [← unhide HRP, rep_ok (M.map fnC) (unhide HFD), show m2 - (qq2 + 1) = r by have := unhide HRE; omega, List.map_append, List.map_cons, List.map_nil, unhide HYC])
              have HRTn := hide ((unhide HRT126).keep hgs (unhide HAT) (fun x e => by injection e with e; have := unhide HLO; have := unhide HLO2; omega))
              clear q2 f2 hgs HC126 HB126 HD126 HL126 HRT126 HRP HML
              refine hK.out _ _ (unhide HCn).bx (fun hS => ?_)
              clear hK KK hS
              refine wpAnyH_done (by kernel_rfl) ?_ _
              go_wp2
              go_roundw
              case rel => exact ⟨qq2 + 1, _, kt, _, by omega, by go_num, HCn, HBn, HDn, HLn, HMn, HRn, HRTn⟩
              case measure => simp [intOf]; omega
        · have i1 : ¬ ((qq2 : Nat) : Int) < ((m2 : Nat) : Int) := by omega
          have hqm : qq2 = m2 := by omega
          have HRR2 : Hid (repP fnP m2 l kd = .ok (M.map fnC, kq)) := hide (by rw [← unhide HRP, hqm, Nat.sub_self]; exact rep_end _)
          obtain ⟨xa, xc, hv, hrow, hall, hnil, hcap⟩ := (unhide HD114).outC
          subst hv
          clear HRP
          obtain ⟨fa, HE1⟩ : ∃ t, t = xa := ⟨_, rfl⟩
          obtain ⟨fcc, HE2⟩ : ∃ t, t = xc := ⟨_, rfl⟩
          obtain ⟨F, HE3⟩ : ∃ t, t = M := ⟨_, rfl⟩
          obtain ⟨ke, HE4⟩ : ∃ t, t = kq := ⟨_, rfl⟩
          subst HE1 HE2 HE3 HE4
          have hFm : F.length = m2 := by rw [unhide HML]; exact hqm
          have HFL : Hid (F.length ≤ m2) := hide (by omega)
          have HCF := hide hcap
          clear HML
          have k0 := (unhide HC114).bx.c 0 rfl
          have k1 := (unhide HC114).bx.c 1 rfl
          have k2 := (unhide HB114).c 2 rfl
          have HK := hide (rhas (unhide HC114).rd m2)
          rw [← hFm] at HK
          have HFM := hide hFm
          clear hFm
          go_wp2_with fail
          refine (unhide HK).mono ?_
          rintro e W9 (⟨b, kh, v, hm, rfl, rfl, hr, hg⟩ | ⟨a, er, hm, rfl, hg⟩)
          rotate_left
          · exact ⟨rfl, Or.inr ⟨_, _, by rw [unhide HFM] at hm; rw [mdP, unhide HNM]; show bndP (coP 32 l k1') _ = _; rw [unhide HCO1]; show bndP (repP clP m1 l k3) _ = _; rw [unhide HRR1]; show bndP (coP 64 l kc) _ = _; rw [unhide HCO2]; show bndP (repP fnP m2 l kd) _ = _; rw [unhide HRR2]; show bndP (ctP m2 l ke) _ = _; rw [ct_hc]; show bndP (bndP (hcP m2 l ke) _) _ = _; rw [hm]; rfl, rfl, grown_trans (unhide HC114).gr hg⟩⟩
          rw [unhide HFM] at hm
          have HC9 := hide ((unhide HC114).step hr hg)
          have HB9 := hide (box_step (unhide HB114) hg (by have := (unhide HLO).1; omega))
          have hrow6 := hrow.far hg (RowAll.mono (fun b hb => by have := unhide HLO; have := unhide HLO2; omega) hall)
          have HRT9 := hide ((unhide HRT114).keep hg (unhide HAT) (fun x e => by injection e with e; have := unhide HLO; omega))
          obtain ⟨b3, HBS⟩ : ∃ b3, b3 = W9.heap.size := ⟨_, rfl⟩
          have HLO3 : Hid (b1 ≤ b2 ∧ b2 ≤ b3) := hide ⟨unhide HLO2, by have := unhide HL114; have := hg.size; omega⟩
          have HAF : Hid (RowAll fnN (fun b => b2 ≤ b ∧ b < b3) fa F) := hide (hrow6.span hall (by omega) fn_both)
          have HRF9 := hide hrow6
          have HL9 : Hid (b3 ≤ W9.heap.size) := hide (by omega)
          have HM3 : Hid (m2 ≤ 64) := HM2
          clear hr hg HK k0 k1 k2 HC114 HB114 HD114 HL114 HRT114 hrow hall hrow6 HBS hnil hcap
          cases b
          · have HMP : Hid (mdP l k = .ok (⟨nm, T.map clC, F.map fnC, []⟩, kh)) := hide (by rw [mdP, unhide HNM]; show bndP (coP 32 l k1') _ = _; rw [unhide HCO1]; show bndP (repP clP m1 l k3) _ = _; rw [unhide HRR1]; show bndP (coP 64 l kc) _ = _; rw [unhide HCO2]; show bndP (repP fnP m2 l kd) _ = _; rw [unhide HRR2]; show bndP (ctP m2 l ke) _ = _; rw [ct_hc]; show bndP (bndP (hcP m2 l ke) _) _ = _; rw [hm]; rfl)
            obtain ⟨C, HCe⟩ : ∃ C : List Bs, C = [] := ⟨_, rfl⟩
            obtain ⟨xa, hxa⟩ : ∃ t : Option Addr, t = none := ⟨_, rfl⟩
            obtain ⟨xc, hxc⟩ : ∃ t : Nat, t = 0 := ⟨_, rfl⟩
            have hCl : C.length = 0 := by rw [HCe]; rfl
            have HB10 : Hid (Bx W9 gc 26 #[.string ⟨nm.toArray⟩, .slice ta T.length tc, .slice fa F.length fcc, .slice xa C.length xc]) := hide (by rw [hxa, hCl, hxc]; exact unhide HB9)
            have HMP : Hid (mdP l k = .ok (⟨nm, T.map clC, F.map fnC, C.map bsC⟩, kh)) := hide (by rw [HCe]; exact unhide HMP)
            have HRC10 : Hid (RowAt bsN W9 xa C) := hide (by rw [HCe]; exact RowAt.nil _ _ _)
            have HAC : Hid (RowAll bsN (fun b => b3 ≤ b) xa C) := hide ⟨fun b off e hl => by omega, fun y hy => by rw [HCe] at hy; cases hy⟩
            have HCL : Hid (C.length ≤ 64) := hide (by omega)
            have HRT10 := HRT9
            have HRF10 := HRF9
            have HC10 := HC9
            clear HCe hxa hxc hCl HB9 HRT9 HRF9 HC9 hm HL9
            obtain ⟨wr, hwr⟩ : ∃ W, W = W9 := ⟨_, rfl⟩
            subst hwr
            have hgw := grown_row (W := wr) (w.heap.size + 1) #[.string ⟨nm.toArray⟩, .slice ta T.length tc, .slice fa F.length fcc, .slice xa C.length xc]
            have HZ : Hid (Bx (wr.setRow (w.heap.size + 1) #[.string ⟨nm.toArray⟩, .slice ta T.length tc, .slice fa F.length fcc, .slice xa C.length xc]) (w.heap.size + 1) 26 #[.string ⟨nm.toArray⟩, .slice ta T.length tc, .slice fa F.length fcc, .slice xa C.length xc]) := hide (setRow_heap _ _ _ _ _ _ (unhide HC10).out)
            have HMR : Hid (MdR (wr.setRow (w.heap.size + 1) #[.string ⟨nm.toArray⟩, .slice ta T.length tc, .slice fa F.length fcc, .slice xa C.length xc]) w.heap.size ⟨⟨nm.toArray⟩, ta, tc, T, fa, fcc, F, xa, xc, C⟩) := hide ⟨(unhide HRT10).keep hgw (unhide HAT) (fun x e => by injection e with e; have := unhide HLO; omega), (unhide HRF10).keep hgw (unhide HAF) (fun x e => by injection e with e; have := unhide HLO; have := unhide HLO2; omega), (unhide HRC10).far hgw (RowAll.mono (fun b hb => by have := unhide HLO; have := unhide HLO2; have := unhide HLO3; omega) (unhide HAC)), RowAll.mono (fun b hb => by have := unhide HLO; omega) (unhide HAT), RowAll.mono (fun b hb => by have := unhide HLO; have := unhide HLO2; omega) (unhide HAF), RowAll.mono (fun b hb => by have := unhide HLO; have := unhide HLO2; have := unhide HLO3; omega) (unhide HAC), unhide HCT, unhide HCF, by show T.length ≤ _; have := unhide HTL; have := unhide HM1; omega, by show F.length ≤ _; have := unhide HFL; have := unhide HM2; omega, by show C.length ≤ _; have := unhide HCL; omega, nm_small (unhide HNM)⟩
            have HRD := hide ((unhide HC10).rd.kept hgw (fun e => by injection e with e; omega) (fun e => by injection e with e; omega))
            have HGG := hide (grownBy_more (unhide HC10).gr hgw (fun x e => Or.inl (by injection e with e; omega)))
            have HO := hide (unhide HC10).out
            have HBB := HB10
            clear hgw HC10 HB10 HRT10 HRF10 HRC10
            go_wp2_with (first | (refine wpList_load_rowG (by kernel_rfl) 26 (.tmp 3) rfl gc rfl 26 #[.string ⟨nm.toArray⟩, .slice ta T.length tc, .slice fa F.length fcc, .slice xa C.length xc] (0, 0) _ (unhide HBB) Tryz.underlying26 rfl (by kernel_rfl) ?_) | (refine wpList_store_row rfl 26 _ _ rfl (w.heap.size + 1) #[.string ⟨nm.toArray⟩, .slice ta T.length tc, .slice fa F.length fcc, .slice xa C.length xc] rfl rfl 26 #[.string ⟨#[]⟩, .slice none 0 0, .slice none 0 0, .slice none 0 0] (unhide HO) (by kernel_rfl) rfl (by simp [Value.oneCell']) ?_))
            refine bodyPost_ret (results_bx rfl _ _ (w.heap.size + 1) _ rfl (run_loadVar_row _ _ 26 26 _ (0, 0) _ (unhide HZ) Tryz.underlying26 rfl (by kernel_rfl))) rfl (Or.inl ⟨_, _, _, unhide HMP, rfl, ⟨⟨⟨nm.toArray⟩, ta, tc, T, fa, fcc, F, xa, xc, C⟩, rfl, ?_, unhide HMR⟩, unhide HRD, unhide HGG⟩)
            show (⟨(⟨nm.toArray⟩ : ByteArray).toList, T.map clC, F.map fnC, C.map bsC⟩ : Mc) = _
            rw [ByteArray.toList_eq]
          · have HHC := hide hm
            clear hm
            have k2 := (unhide HB9).c 2 rfl
            rw [unhide HFM] at k2
            have HFM2 := HFM
            go_wp2_with fail
            go_loopw [39] (fun i wr => ∃ (q : Nat) (M : List Bs) (kq : Nat) (v : Value), q ≤ m2 ∧ i = .int .i64 (q : Int) ∧ Hid (C0 w wr p g cap l kq 26 #[.string ⟨#[]⟩, .slice none 0 0, .slice none 0 0, .slice none 0 0]) ∧ Hid (Bx wr gc 26 #[.string ⟨nm.toArray⟩, .slice ta T.length tc, .slice fa F.length fcc, v]) ∧ Hid (Bld bsN wr b3 v M) ∧ Hid (b3 ≤ wr.heap.size) ∧ Hid (M.length = q) ∧ Hid ((bndP (repP loP (m2 - q) l kq) fun xs j => (.ok (M.map bsC ++ xs, j) : PR (List _))) = repP loP m2 l kh) ∧ Hid (RowAt clN wr ta T) ∧ Hid (RowAt fnN wr fa F)) (fun i _ => m2 - (intOf i).toNat)
            case atStart => exact ⟨0, [], kh, .slice none 0 0, by omega, rfl, HC9, HB9, hide (Bld.nil _ _ _), HL9, hide rfl, hide (rep_start _), HRT9, HRF9⟩
            case round =>
              clear HC9 HB9 HL9 HRT9 HRF9
              obtain ⟨qq3, M, kq, v, hqq3, rfl, HC127, HB127, HD127, HL127, HML, HRP, HRT127, HRF127⟩ := hrel
              by_cases hlt : qq3 < m2
              · have i1 : ((qq3 : Nat) : Int) < ((m2 : Nat) : Int) := by omega
                obtain ⟨r, HRE⟩ : ∃ r, Hid (m2 - qq3 = r + 1) := ⟨m2 - qq3 - 1, hide (by omega)⟩
                obtain ⟨va, vc, rfl⟩ := (unhide HD127).slice
                have HVL : Hid (∀ x, (Value.slice va M.length vc).ownBlock = some x → b3 ≤ x) := hide (fun x e => (World.ownsRow.lt (unhide HD127).own x e).1)
                rw [unhide HRE] at HRP
                go_upto_region 13 with fail
                refine wp_region_held_drew (S := fun w' => Bx w' w.heap.size 112 #[.pointer (some ⟨p, 0, none⟩), .int .i64 (l.length : Int)]) mixed ((unhide HC127).below (Below.drew (Below.refl _ _))).bx (fun hS => ?_)
                have HC128 := hide ((unhide HC127).below (Below.drew (Below.refl _ _)))
                have HB128 := hide ((unhide HB127).below (Below.drew (Below.refl _ _)))
                have HD128 := hide ((unhide HD127).below (Below.drew (Below.refl _ _)))
                have HL128 : Hid (b3 ≤ wr.drew.heap.size) := hide (unhide HL127)
                have HRT128 := hide ((unhide HRT127).below (Below.drew (Below.refl _ _)))
                have HRF128 := hide ((unhide HRF127).below (Below.drew (Below.refl _ _)))
                clear HC127 HB127 HD127 HL127 HRT127 HRF127
                generalize wr.drew = Wd at hS HC128 HB128 HD128 HL128 HRT128 HRF128 ⊢
                refine wpAnyH_take (i := 0) (v := .pointer (some ⟨gc, 3, none⟩)) rfl (by kernel_rfl) (by kernel_rfl) (by kernel_rfl) (fun _ _ _ h => h) (Or.inl ⟨by rfl, fun W _ => by go_simp⟩) hS ?_
                go_simp
                refine wpAnyH_take (i := 2) (v := .agg #[.pointer (some ⟨p, 0, none⟩), .int .i64 (l.length : Int)]) rfl (by kernel_rfl) (by kernel_rfl) (by kernel_rfl) (fun _ _ _ h => h) (Or.inl ⟨by rfl, fun W h => by have h0 := h.c 0 rfl; have h1 := h.c 1 rfl; go_simp⟩) hS ?_
                go_simp
                refine wpAnyH_ready (rs := [1, 3]) (by kernel_rfl) (by simp) ?_
                refine AllReadyH.cons rfl (fun KK hK => ?_) ?_
                · have q2 := (unhide HB128).c 3 rfl
                  go_simp
                  refine hK.out _ _ (unhide HC128).bx (fun hS => ?_)
                  clear hK KK q2
                  refine wpAnyH_ready (rs := [3]) (by kernel_rfl) (by simp) ?_
                  refine AllReadyH.cons rfl (fun KK hK => ?_) AllReadyH.nil
                  go_simp
                  have HK := hide (rlong (unhide HC128).rd)
                  refine (unhide HK).mono ?_
                  rintro e W130 (⟨z, kt, v, hm, rfl, ho, hr, hg⟩ | ⟨a, er, hm, rfl, hg⟩)
                  rotate_left
                  · exact ⟨rfl, Or.inr ⟨_, _, by rw [mdP, unhide HNM]; show bndP (coP 32 l k1') _ = _; rw [unhide HCO1]; show bndP (repP clP m1 l k3) _ = _; rw [unhide HRR1]; show bndP (coP 64 l kc) _ = _; rw [unhide HCO2]; show bndP (repP fnP m2 l kd) _ = _; rw [unhide HRR2]; show bndP (ctP m2 l ke) _ = _; rw [ct_hc]; show bndP (bndP (hcP m2 l ke) _) _ = _; rw [unhide HHC]; show bndP (repP loP m2 l kh) _ = _; rw [← unhide HRP, rep_no _ hm]; rfl, rfl, grown_trans (unhide HC128).gr hg⟩⟩
                  obtain ⟨ca, cc, rfl, hba, hbl, hbn⟩ := own_out ho
                  have hzl := lo_len hm
                  obtain ⟨y, hy1, hy2, hy3⟩ : ∃ y : Bs, y.ca = ca ∧ y.cc = cc ∧ y.cd = z := ⟨⟨ca, cc, z⟩, rfl, rfl, rfl⟩
                  subst hy1 hy2 hy3
                  have hyc : bsC y = y.cd := rfl
                  have hyo : bsN.ok W130 y := ⟨hba, hbn, by omega⟩
                  have hya : bsN.all (fun b => Wd.heap.size ≤ b) y := hbl
                  clear ho hba hbl hbn hzl
                  have HYC := hide hyc
                  have HYO := hide hyo
                  have HYL : Hid (bsN.all (fun b => b3 ≤ b) y) := hide (bsN.mono (fun b hb => Nat.le_trans (unhide HL128) hb) hya)
                  have HYN : Hid (∀ x, (Value.slice va M.length vc).ownBlock = some x → bsN.all (fun b => b ≠ x) y) := hide (fun x e => bsN.mono (fun b hb => by have := (World.ownsRow.lt (unhide HD128).own x e).2; omega) hya)
                  have HC130 := hide ((unhide HC128).step hr hg)
                  have HB130 := hide (box_step (unhide HB128) hg (by have := (unhide HLO).1; omega))
                  have HD130 := hide ((unhide HD128).box hg (by have := (unhide HLO); have := unhide HLO3; omega))
                  have HL130 : Hid (b3 ≤ W130.heap.size) := hide (Nat.le_trans (unhide HL128) hg.size)
                  have HFD := hide hm
                  have HRT130 := hide ((unhide HRT128).keep hg (unhide HAT) (fun x e => by injection e with e; have := unhide HLO; have := unhide HLO3; omega))
                  have HRF130 := hide ((unhide HRF128).keep hg (unhide HAF) (fun x e => by injection e with e; have := unhide HLO; have := unhide HLO3; omega))
                  refine hK.out _ _ (unhide HC130).bx (fun hS => ?_)
                  clear hK KK HK hm hr hg hyc hyo hya HC128 HB128 HD128 HL128 HRT128 HRF128
                  refine wpAnyH_ready (rs := [4]) (by kernel_rfl) (by simp) ?_
                  refine AllReadyH.cons rfl (fun KK hK => ?_) AllReadyH.nil
                  go_simp
                  have HA131 : Hid (C0 w (W130.alloc (.cells #[.slice y.ca y.cd.length y.cc] 28)) p g cap l kt 26 #[.string ⟨#[]⟩, .slice none 0 0, .slice none 0 0, .slice none 0 0]) := hide ((unhide HC130).below ((Below.refl _ _).alloc (Nat.le_refl _) _))
                  have HBA131 := hide ((unhide HB130).below ((Below.refl W130.heap.size W130).alloc (Nat.le_refl _) (.cells #[.slice y.ca y.cd.length y.cc] 28)))
                  refine hK.out _ _ (unhide HA131).bx (fun hS => ?_)
                  clear hK KK
                  refine wpAnyH_ready (rs := [5]) (by kernel_rfl) (by simp) ?_
                  refine AllReadyH.cons rfl (fun KK hK => ?_) AllReadyH.nil
                  refine step_append_lies _ (by rfl) _ _ 24 (by rfl) b3 28 in3 _ 1 24 Tryz.underlying24 hi3 hz30 hz31 hz32 rfl (by omega) (.slice va M.length vc) M.length (vals bsN M) (by rfl) (rowBelow (unhide HD130).own ((Below.refl _ _).alloc (Nat.le_refl _) _)) ⟨W130.heap.size, 0, none⟩ 1 1 (bsN.cells y) (by rfl) (by rfl) (World.news_of_block (cs := #[.slice y.ca y.cd.length y.cc]) (t := 28) (fr := (0, 0)) (heap_alloc_new W130 _)) (fun u hu => by simp [bsN] at hu; rcases hu with rfl <;> rfl) (by omega) (by have := unhide HML; have := unhide HM3; unfold maxLen; omega) (by have := unhide HML; have := unhide HM3; omega) (by rw [World.size_alloc]; have := unhide HL130; omega) (W130.heap.size + 1) (by simp) ?_
                  intro g3 cap3 W132 hown hgrow hat hlt3
                  have al : Below W130.heap.size W130 (W130.alloc (.cells #[.slice y.ca y.cd.length y.cc] 28)) := (Below.refl _ _).alloc (Nat.le_refl _) _
                  have HD132 : Hid (Bld bsN W132 b3 (.slice (some ⟨g3, 0, none⟩) (M.length + 1) cap3) (M ++ [y])) := hide ((unhide HD130).snoc (y := y) (unhide HYO) (unhide HYL) (unhide HYN) hown hgrow hat)
                  have HC132 := hide (((unhide HC130).below al).row hgrow (fun x e => by have := unhide HVL x e; have := unhide HLO; have := unhide HLO3; omega) hgl)
                  have HB132 := hide (((unhide HB130).below al).grown hgrow (fun e => by have := unhide HVL gc e; have := unhide HLO; have := unhide HLO3; omega))
                  have HL132 : Hid (b3 ≤ W132.heap.size) := hide (by have := hgrow.size; rw [World.size_alloc] at this; have := unhide HL130; omega)
                  have HRT132 := hide (((unhide HRT130).below al).keep hgrow (unhide HAT) (fun x e => by have := unhide HVL x e; have := unhide HLO; have := unhide HLO3; omega))
                  have HRF132 := hide (((unhide HRF130).below al).keep hgrow (unhide HAF) (fun x e => by have := unhide HVL x e; have := unhide HLO; have := unhide HLO3; omega))
                  refine hK.out _ _ (unhide HC132).bx (fun hS => ?_)
                  clear hK KK hown hgrow hat hlt3 al HC130 HB130 HD130 HL130 HRT130 HRF130
                  refine wpAnyH_take (i := 6) (v := .pointer (some ⟨gc, 3, none⟩)) rfl (by kernel_rfl) (by kernel_rfl) (by kernel_rfl) (fun _ _ _ h => h) (Or.inl ⟨by rfl, fun W _ => by go_simp⟩) hS ?_
                  go_simp
                  refine wpAnyH_ready (rs := [7]) (by kernel_rfl) (by simp) ?_
                  refine AllReadyH.cons rfl (fun KK hK => ?_) AllReadyH.nil
                  have q2 := (unhide HB132).c 3 rfl
                  have f2 := (unhide HB132).f 3
                  go_simp
                  have hgs := grownBy_set W132 gc 3 (.slice (some ⟨g3, 0, none⟩) (M.length + 1) cap3)
                  have HCn := hide ((unhide HC132).own hgs (unhide HLO).1 (by have := (unhide HLO).1; omega))
                  have HBn : Hid (Bx (W132.setCell ⟨gc, 3, none⟩ (.slice (some ⟨g3, 0, none⟩) (M.length + 1) cap3)) gc 26 #[.string ⟨nm.toArray⟩, .slice ta T.length tc, .slice fa F.length fcc, .slice (some ⟨g3, 0, none⟩) (M.length + 1) cap3]) := hide ((unhide HB132).set 3 _ rfl)
                  have HDn := hide ((unhide HD132).box hgs (by have := unhide HLO; have := unhide HLO3; omega))
                  have HLn : Hid (b3 ≤ (W132.setCell ⟨gc, 3, none⟩ (.slice (some ⟨g3, 0, none⟩) (M.length + 1) cap3)).heap.size) := hide (Nat.le_trans (unhide HL132) hgs.size)
                  have HMn : Hid ((M ++ [y]).length = qq3 + 1) := hide (by rw [List.length_append, unhide HML]; rfl)
                  have HRn : Hid ((bndP (repP loP (m2 - (qq3 + 1)) l kt) fun xs j => (.ok ((M ++ [y]).map bsC ++ xs, j) : PR (List _))) = repP loP m2 l kh) := hide (by
                    rw [← unhide HRP, rep_ok (M.map bsC) (unhide HFD), show m2 - (qq3 + 1) = r by have := unhide HRE; omega, List.map_append, List.map_cons, List.map_nil, unhide HYC])
                  have HRTn := hide ((unhide HRT132).keep hgs (unhide HAT) (fun x e => by injection e with e; have := unhide HLO; have := unhide HLO3; omega))
                  have HRFn := hide ((unhide HRF132).keep hgs (unhide HAF) (fun x e => by injection e with e; have := unhide HLO; have := unhide HLO3; omega))
                  clear q2 f2 hgs HC132 HB132 HD132 HL132 HRT132 HRF132 HRP HML
                  refine hK.out _ _ (unhide HCn).bx (fun hS => ?_)
                  clear hK KK hS
                  refine wpAnyH_done (by kernel_rfl) ?_ _
                  go_wp2
                  go_roundw
                  case rel => exact ⟨qq3 + 1, _, kt, _, by omega, by go_num, HCn, HBn, HDn, HLn, HMn, HRn, HRTn, HRFn⟩
                  case measure => simp [intOf]; omega
                · refine AllReadyH.cons rfl (fun KK hK => ?_) AllReadyH.nil
                  go_simp
                  have HK := hide (rlong (unhide HC128).rd)
                  refine (unhide HK).mono ?_
                  rintro e W133 (⟨z, kt, v, hm, rfl, ho, hr, hg⟩ | ⟨a, er, hm, rfl, hg⟩)
                  rotate_left
                  · exact ⟨rfl, Or.inr ⟨_, _, by rw [mdP, unhide HNM]; show bndP (coP 32 l k1') _ = _; rw [unhide HCO1]; show bndP (repP clP m1 l k3) _ = _; rw [unhide HRR1]; show bndP (coP 64 l kc) _ = _; rw [unhide HCO2]; show bndP (repP fnP m2 l kd) _ = _; rw [unhide HRR2]; show bndP (ctP m2 l ke) _ = _; rw [ct_hc]; show bndP (bndP (hcP m2 l ke) _) _ = _; rw [unhide HHC]; show bndP (repP loP m2 l kh) _ = _; rw [← unhide HRP, rep_no _ hm]; rfl, rfl, grown_trans (unhide HC128).gr hg⟩⟩
                  obtain ⟨ca, cc, rfl, hba, hbl, hbn⟩ := own_out ho
                  have hzl := lo_len hm
                  obtain ⟨y, hy1, hy2, hy3⟩ : ∃ y : Bs, y.ca = ca ∧ y.cc = cc ∧ y.cd = z := ⟨⟨ca, cc, z⟩, rfl, rfl, rfl⟩
                  subst hy1 hy2 hy3
                  have hyc : bsC y = y.cd := rfl
                  have hyo : bsN.ok W133 y := ⟨hba, hbn, by omega⟩
                  have hya : bsN.all (fun b => Wd.heap.size ≤ b) y := hbl
                  clear ho hba hbl hbn hzl
                  have HYC := hide hyc
                  have HYO := hide hyo
                  have HYL : Hid (bsN.all (fun b => b3 ≤ b) y) := hide (bsN.mono (fun b hb => Nat.le_trans (unhide HL128) hb) hya)
                  have HYN : Hid (∀ x, (Value.slice va M.length vc).ownBlock = some x → bsN.all (fun b => b ≠ x) y) := hide (fun x e => bsN.mono (fun b hb => by have := (World.ownsRow.lt (unhide HD128).own x e).2; omega) hya)
                  have HC133 := hide ((unhide HC128).step hr hg)
                  have HB133 := hide (box_step (unhide HB128) hg (by have := (unhide HLO).1; omega))
                  have HD133 := hide ((unhide HD128).box hg (by have := (unhide HLO); have := unhide HLO3; omega))
                  have HL133 : Hid (b3 ≤ W133.heap.size) := hide (Nat.le_trans (unhide HL128) hg.size)
                  have HFD := hide hm
                  have HRT133 := hide ((unhide HRT128).keep hg (unhide HAT) (fun x e => by injection e with e; have := unhide HLO; have := unhide HLO3; omega))
                  have HRF133 := hide ((unhide HRF128).keep hg (unhide HAF) (fun x e => by injection e with e; have := unhide HLO; have := unhide HLO3; omega))
                  refine hK.out _ _ (unhide HC133).bx (fun hS => ?_)
                  clear hK KK HK hm hr hg hyc hyo hya HC128 HB128 HD128 HL128 HRT128 HRF128
                  refine wpAnyH_ready (rs := [1, 4]) (by kernel_rfl) (by simp) ?_
                  refine AllReadyH.cons rfl (fun KK hK => ?_) ?_
                  · have q2 := (unhide HB133).c 3 rfl
                    go_simp
                    refine hK.out _ _ (unhide HC133).bx (fun hS => ?_)
                    clear hK KK q2
                    refine wpAnyH_ready (rs := [4]) (by kernel_rfl) (by simp) ?_
                    refine AllReadyH.cons rfl (fun KK hK => ?_) AllReadyH.nil
                    go_simp
                    have HA135 : Hid (C0 w (W133.alloc (.cells #[.slice y.ca y.cd.length y.cc] 28)) p g cap l kt 26 #[.string ⟨#[]⟩, .slice none 0 0, .slice none 0 0, .slice none 0 0]) := hide ((unhide HC133).below ((Below.refl _ _).alloc (Nat.le_refl _) _))
                    have HBA135 := hide ((unhide HB133).below ((Below.refl W133.heap.size W133).alloc (Nat.le_refl _) (.cells #[.slice y.ca y.cd.length y.cc] 28)))
                    refine hK.out _ _ (unhide HA135).bx (fun hS => ?_)
                    clear hK KK
                    refine wpAnyH_ready (rs := [5]) (by kernel_rfl) (by simp) ?_
                    refine AllReadyH.cons rfl (fun KK hK => ?_) AllReadyH.nil
                    refine step_append_lies _ (by rfl) _ _ 24 (by rfl) b3 28 in3 _ 1 24 Tryz.underlying24 hi3 hz30 hz31 hz32 rfl (by omega) (.slice va M.length vc) M.length (vals bsN M) (by rfl) (rowBelow (unhide HD133).own ((Below.refl _ _).alloc (Nat.le_refl _) _)) ⟨W133.heap.size, 0, none⟩ 1 1 (bsN.cells y) (by rfl) (by rfl) (World.news_of_block (cs := #[.slice y.ca y.cd.length y.cc]) (t := 28) (fr := (0, 0)) (heap_alloc_new W133 _)) (fun u hu => by simp [bsN] at hu; rcases hu with rfl <;> rfl) (by omega) (by have := unhide HML; have := unhide HM3; unfold maxLen; omega) (by have := unhide HML; have := unhide HM3; omega) (by rw [World.size_alloc]; have := unhide HL133; omega) (W133.heap.size + 1) (by simp) ?_
                    intro g3 cap3 W136 hown hgrow hat hlt3
                    have al : Below W133.heap.size W133 (W133.alloc (.cells #[.slice y.ca y.cd.length y.cc] 28)) := (Below.refl _ _).alloc (Nat.le_refl _) _
                    have HD136 : Hid (Bld bsN W136 b3 (.slice (some ⟨g3, 0, none⟩) (M.length + 1) cap3) (M ++ [y])) := hide ((unhide HD133).snoc (y := y) (unhide HYO) (unhide HYL) (unhide HYN) hown hgrow hat)
                    have HC136 := hide (((unhide HC133).below al).row hgrow (fun x e => by have := unhide HVL x e; have := unhide HLO; have := unhide HLO3; omega) hgl)
                    have HB136 := hide (((unhide HB133).below al).grown hgrow (fun e => by have := unhide HVL gc e; have := unhide HLO; have := unhide HLO3; omega))
                    have HL136 : Hid (b3 ≤ W136.heap.size) := hide (by have := hgrow.size; rw [World.size_alloc] at this; have := unhide HL133; omega)
                    have HRT136 := hide (((unhide HRT133).below al).keep hgrow (unhide HAT) (fun x e => by have := unhide HVL x e; have := unhide HLO; have := unhide HLO3; omega))
                    have HRF136 := hide (((unhide HRF133).below al).keep hgrow (unhide HAF) (fun x e => by have := unhide HVL x e; have := unhide HLO; have := unhide HLO3; omega))
                    refine hK.out _ _ (unhide HC136).bx (fun hS => ?_)
                    clear hK KK hown hgrow hat hlt3 al HC133 HB133 HD133 HL133 HRT133 HRF133
                    refine wpAnyH_take (i := 6) (v := .pointer (some ⟨gc, 3, none⟩)) rfl (by kernel_rfl) (by kernel_rfl) (by kernel_rfl) (fun _ _ _ h => h) (Or.inl ⟨by rfl, fun W _ => by go_simp⟩) hS ?_
                    go_simp
                    refine wpAnyH_ready (rs := [7]) (by kernel_rfl) (by simp) ?_
                    refine AllReadyH.cons rfl (fun KK hK => ?_) AllReadyH.nil
                    have q2 := (unhide HB136).c 3 rfl
                    have f2 := (unhide HB136).f 3
                    go_simp
                    have hgs := grownBy_set W136 gc 3 (.slice (some ⟨g3, 0, none⟩) (M.length + 1) cap3)
                    have HCn := hide ((unhide HC136).own hgs (unhide HLO).1 (by have := (unhide HLO).1; omega))
                    have HBn : Hid (Bx (W136.setCell ⟨gc, 3, none⟩ (.slice (some ⟨g3, 0, none⟩) (M.length + 1) cap3)) gc 26 #[.string ⟨nm.toArray⟩, .slice ta T.length tc, .slice fa F.length fcc, .slice (some ⟨g3, 0, none⟩) (M.length + 1) cap3]) := hide ((unhide HB136).set 3 _ rfl)
                    have HDn := hide ((unhide HD136).box hgs (by have := unhide HLO; have := unhide HLO3; omega))
                    have HLn : Hid (b3 ≤ (W136.setCell ⟨gc, 3, none⟩ (.slice (some ⟨g3, 0, none⟩) (M.length + 1) cap3)).heap.size) := hide (Nat.le_trans (unhide HL136) hgs.size)
                    have HMn : Hid ((M ++ [y]).length = qq3 + 1) := hide (by rw [List.length_append, unhide HML]; rfl)
                    have HRn : Hid ((bndP (repP loP (m2 - (qq3 + 1)) l kt) fun xs j => (.ok ((M ++ [y]).map bsC ++ xs, j) : PR (List _))) = repP loP m2 l kh) := hide (by
                      rw [← unhide HRP, rep_ok (M.map bsC) (unhide HFD), show m2 - (qq3 + 1) = r by have := unhide HRE; omega, List.map_append, List.map_cons, List.map_nil, unhide HYC])
                    have HRTn := hide ((unhide HRT136).keep hgs (unhide HAT) (fun x e => by injection e with e; have := unhide HLO; have := unhide HLO3; omega))
                    have HRFn := hide ((unhide HRF136).keep hgs (unhide HAF) (fun x e => by injection e with e; have := unhide HLO; have := unhide HLO3; omega))
                    clear q2 f2 hgs HC136 HB136 HD136 HL136 HRT136 HRF136 HRP HML
                    refine hK.out _ _ (unhide HCn).bx (fun hS => ?_)
                    clear hK KK hS
                    refine wpAnyH_done (by kernel_rfl) ?_ _
                    go_wp2
                    go_roundw
                    case rel => exact ⟨qq3 + 1, _, kt, _, by omega, by go_num, HCn, HBn, HDn, HLn, HMn, HRn, HRTn, HRFn⟩
                    case measure => simp [intOf]; omega
                  · refine AllReadyH.cons rfl (fun KK hK => ?_) AllReadyH.nil
                    go_simp
                    have HA137 : Hid (C0 w (W133.alloc (.cells #[.slice y.ca y.cd.length y.cc] 28)) p g cap l kt 26 #[.string ⟨#[]⟩, .slice none 0 0, .slice none 0 0, .slice none 0 0]) := hide ((unhide HC133).below ((Below.refl _ _).alloc (Nat.le_refl _) _))
                    have HBA137 := hide ((unhide HB133).below ((Below.refl W133.heap.size W133).alloc (Nat.le_refl _) (.cells #[.slice y.ca y.cd.length y.cc] 28)))
                    refine hK.out _ _ (unhide HA137).bx (fun hS => ?_)
                    clear hK KK
                    refine wpAnyH_ready (rs := [1]) (by kernel_rfl) (by simp) ?_
                    refine AllReadyH.cons rfl (fun KK hK => ?_) AllReadyH.nil
                    have q2 := (unhide HBA137).c 3 rfl
                    go_simp
                    refine hK.out _ _ (unhide HA137).bx (fun hS => ?_)
                    clear hK KK q2
                    refine wpAnyH_ready (rs := [5]) (by kernel_rfl) (by simp) ?_
                    refine AllReadyH.cons rfl (fun KK hK => ?_) AllReadyH.nil
                    refine step_append_lies _ (by rfl) _ _ 24 (by rfl) b3 28 in3 _ 1 24 Tryz.underlying24 hi3 hz30 hz31 hz32 rfl (by omega) (.slice va M.length vc) M.length (vals bsN M) (by rfl) (rowBelow (unhide HD133).own ((Below.refl _ _).alloc (Nat.le_refl _) _)) ⟨W133.heap.size, 0, none⟩ 1 1 (bsN.cells y) (by rfl) (by rfl) (World.news_of_block (cs := #[.slice y.ca y.cd.length y.cc]) (t := 28) (fr := (0, 0)) (heap_alloc_new W133 _)) (fun u hu => by simp [bsN] at hu; rcases hu with rfl <;> rfl) (by omega) (by have := unhide HML; have := unhide HM3; unfold maxLen; omega) (by have := unhide HML; have := unhide HM3; omega) (by rw [World.size_alloc]; have := unhide HL133; omega) (W133.heap.size + 1) (by simp) ?_
                    intro g3 cap3 W139 hown hgrow hat hlt3
                    have al : Below W133.heap.size W133 (W133.alloc (.cells #[.slice y.ca y.cd.length y.cc] 28)) := (Below.refl _ _).alloc (Nat.le_refl _) _
                    have HD139 : Hid (Bld bsN W139 b3 (.slice (some ⟨g3, 0, none⟩) (M.length + 1) cap3) (M ++ [y])) := hide ((unhide HD133).snoc (y := y) (unhide HYO) (unhide HYL) (unhide HYN) hown hgrow hat)
                    have HC139 := hide (((unhide HC133).below al).row hgrow (fun x e => by have := unhide HVL x e; have := unhide HLO; have := unhide HLO3; omega) hgl)
                    have HB139 := hide (((unhide HB133).below al).grown hgrow (fun e => by have := unhide HVL gc e; have := unhide HLO; have := unhide HLO3; omega))
                    have HL139 : Hid (b3 ≤ W139.heap.size) := hide (by have := hgrow.size; rw [World.size_alloc] at this; have := unhide HL133; omega)
                    have HRT139 := hide (((unhide HRT133).below al).keep hgrow (unhide HAT) (fun x e => by have := unhide HVL x e; have := unhide HLO; have := unhide HLO3; omega))
                    have HRF139 := hide (((unhide HRF133).below al).keep hgrow (unhide HAF) (fun x e => by have := unhide HVL x e; have := unhide HLO; have := unhide HLO3; omega))
                    refine hK.out _ _ (unhide HC139).bx (fun hS => ?_)
                    clear hK KK hown hgrow hat hlt3 al HC133 HB133 HD133 HL133 HRT133 HRF133
                    refine wpAnyH_take (i := 6) (v := .pointer (some ⟨gc, 3, none⟩)) rfl (by kernel_rfl) (by kernel_rfl) (by kernel_rfl) (fun _ _ _ h => h) (Or.inl ⟨by rfl, fun W _ => by go_simp⟩) hS ?_
                    go_simp
                    refine wpAnyH_ready (rs := [7]) (by kernel_rfl) (by simp) ?_
                    refine AllReadyH.cons rfl (fun KK hK => ?_) AllReadyH.nil
                    have q2 := (unhide HB139).c 3 rfl
                    have f2 := (unhide HB139).f 3
                    go_simp
                    have hgs := grownBy_set W139 gc 3 (.slice (some ⟨g3, 0, none⟩) (M.length + 1) cap3)
                    have HCn := hide ((unhide HC139).own hgs (unhide HLO).1 (by have := (unhide HLO).1; omega))
                    have HBn : Hid (Bx (W139.setCell ⟨gc, 3, none⟩ (.slice (some ⟨g3, 0, none⟩) (M.length + 1) cap3)) gc 26 #[.string ⟨nm.toArray⟩, .slice ta T.length tc, .slice fa F.length fcc, .slice (some ⟨g3, 0, none⟩) (M.length + 1) cap3]) := hide ((unhide HB139).set 3 _ rfl)
                    have HDn := hide ((unhide HD139).box hgs (by have := unhide HLO; have := unhide HLO3; omega))
                    have HLn : Hid (b3 ≤ (W139.setCell ⟨gc, 3, none⟩ (.slice (some ⟨g3, 0, none⟩) (M.length + 1) cap3)).heap.size) := hide (Nat.le_trans (unhide HL139) hgs.size)
                    have HMn : Hid ((M ++ [y]).length = qq3 + 1) := hide (by rw [List.length_append, unhide HML]; rfl)
                    have HRn : Hid ((bndP (repP loP (m2 - (qq3 + 1)) l kt) fun xs j => (.ok ((M ++ [y]).map bsC ++ xs, j) : PR (List _))) = repP loP m2 l kh) := hide (by
                      rw [← unhide HRP, rep_ok (M.map bsC) (unhide HFD), show m2 - (qq3 + 1) = r by have := unhide HRE; omega, List.map_append, List.map_cons, List.map_nil, unhide HYC])
                    have HRTn := hide ((unhide HRT139).keep hgs (unhide HAT) (fun x e => by injection e with e; have := unhide HLO; have := unhide HLO3; omega))
                    have HRFn := hide ((unhide HRF139).keep hgs (unhide HAF) (fun x e => by injection e with e; have := unhide HLO; have := unhide HLO3; omega))
                    clear q2 f2 hgs HC139 HB139 HD139 HL139 HRT139 HRF139 HRP HML
                    refine hK.out _ _ (unhide HCn).bx (fun hS => ?_)
                    clear hK KK hS
                    refine wpAnyH_done (by kernel_rfl) ?_ _
                    go_wp2
                    go_roundw
                    case rel => exact ⟨qq3 + 1, _, kt, _, by omega, by go_num, HCn, HBn, HDn, HLn, HMn, HRn, HRTn, HRFn⟩
                    case measure => simp [intOf]; omega
              · have i1 : ¬ ((qq3 : Nat) : Int) < ((m2 : Nat) : Int) := by omega
                have hqm : qq3 = m2 := by omega
                have HRR3 : Hid (repP loP m2 l kh = .ok (M.map bsC, kq)) := hide (by rw [← unhide HRP, hqm, Nat.sub_self]; exact rep_end _)
                obtain ⟨xa, xc, hv, hrow, hall, hnil, hcap⟩ := (unhide HD127).outC
                subst hv
                clear HRP
                obtain ⟨C, HE3⟩ : ∃ t, t = M := ⟨_, rfl⟩
                subst HE3
                have HMP : Hid (mdP l k = .ok (⟨nm, T.map clC, F.map fnC, C.map bsC⟩, kq)) := hide (by rw [mdP, unhide HNM]; show bndP (coP 32 l k1') _ = _; rw [unhide HCO1]; show bndP (repP clP m1 l k3) _ = _; rw [unhide HRR1]; show bndP (coP 64 l kc) _ = _; rw [unhide HCO2]; show bndP (repP fnP m2 l kd) _ = _; rw [unhide HRR2]; show bndP (ctP m2 l ke) _ = _; rw [ct_hc]; show bndP (bndP (hcP m2 l ke) _) _ = _; rw [unhide HHC]; show bndP (repP loP m2 l kh) _ = _; rw [unhide HRR3]; rfl)
                have HRC127 := hide hrow
                have HAC := hide hall
                have HCL : Hid (C.length ≤ 64) := hide (by have := unhide HML; have := unhide HM2; omega)
                clear hrow hall hnil hcap HD127 HL127 HML
                have hgw := grown_row (W := wr) (w.heap.size + 1) #[.string ⟨nm.toArray⟩, .slice ta T.length tc, .slice fa F.length fcc, .slice xa C.length xc]
                have HZ : Hid (Bx (wr.setRow (w.heap.size + 1) #[.string ⟨nm.toArray⟩, .slice ta T.length tc, .slice fa F.length fcc, .slice xa C.length xc]) (w.heap.size + 1) 26 #[.string ⟨nm.toArray⟩, .slice ta T.length tc, .slice fa F.length fcc, .slice xa C.length xc]) := hide (setRow_heap _ _ _ _ _ _ (unhide HC127).out)
                have HMR : Hid (MdR (wr.setRow (w.heap.size + 1) #[.string ⟨nm.toArray⟩, .slice ta T.length tc, .slice fa F.length fcc, .slice xa C.length xc]) w.heap.size ⟨⟨nm.toArray⟩, ta, tc, T, fa, fcc, F, xa, xc, C⟩) := hide ⟨(unhide HRT127).keep hgw (unhide HAT) (fun x e => by injection e with e; have := unhide HLO; omega), (unhide HRF127).keep hgw (unhide HAF) (fun x e => by injection e with e; have := unhide HLO; have := unhide HLO2; omega), (unhide HRC127).far hgw (RowAll.mono (fun b hb => by have := unhide HLO; have := unhide HLO2; have := unhide HLO3; omega) (unhide HAC)), RowAll.mono (fun b hb => by have := unhide HLO; omega) (unhide HAT), RowAll.mono (fun b hb => by have := unhide HLO; have := unhide HLO2; omega) (unhide HAF), RowAll.mono (fun b hb => by have := unhide HLO; have := unhide HLO2; have := unhide HLO3; omega) (unhide HAC), unhide HCT, unhide HCF, by show T.length ≤ _; have := unhide HTL; have := unhide HM1; omega, by show F.length ≤ _; have := unhide HFL; have := unhide HM2; omega, by show C.length ≤ _; have := unhide HCL; omega, nm_small (unhide HNM)⟩
                have HRD := hide ((unhide HC127).rd.kept hgw (fun e => by injection e with e; omega) (fun e => by injection e with e; omega))
                have HGG := hide (grownBy_more (unhide HC127).gr hgw (fun x e => Or.inl (by injection e with e; omega)))
                have HO := hide (unhide HC127).out
                have HBB := HB127
                clear hgw HC127 HB127 HRT127 HRF127 HRC127
                go_wp2_with (first | (refine wpList_load_rowG (by kernel_rfl) 26 (.tmp 3) rfl gc rfl 26 #[.string ⟨nm.toArray⟩, .slice ta T.length tc, .slice fa F.length fcc, .slice xa C.length xc] (0, 0) _ (unhide HBB) Tryz.underlying26 rfl (by kernel_rfl) ?_) | (refine wpList_store_row rfl 26 _ _ rfl (w.heap.size + 1) #[.string ⟨nm.toArray⟩, .slice ta T.length tc, .slice fa F.length fcc, .slice xa C.length xc] rfl rfl 26 #[.string ⟨#[]⟩, .slice none 0 0, .slice none 0 0, .slice none 0 0] (unhide HO) (by kernel_rfl) rfl (by simp [Value.oneCell']) ?_))
                refine bodyPost_ret (results_bx rfl _ _ (w.heap.size + 1) _ rfl (run_loadVar_row _ _ 26 26 _ (0, 0) _ (unhide HZ) Tryz.underlying26 rfl (by kernel_rfl))) rfl (Or.inl ⟨_, _, _, unhide HMP, rfl, ⟨⟨⟨nm.toArray⟩, ta, tc, T, fa, fcc, F, xa, xc, C⟩, rfl, ?_, unhide HMR⟩, unhide HRD, unhide HGG⟩)
                show (⟨(⟨nm.toArray⟩ : ByteArray).toList, T.map clC, F.map fnC, C.map bsC⟩ : Mc) = _
                rw [ByteArray.toList_eq]
end Go.Proofs.YtibgfdjopikafaaGreatDoor
