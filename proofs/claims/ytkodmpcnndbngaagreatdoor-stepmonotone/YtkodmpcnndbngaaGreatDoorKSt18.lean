/-
  step.apply: the frame behind an instruction, of a frame and in an environment that can be, as the plain function says; nothing old is turned.
-/
import Derived.Test.YtkodmpcnndbngaaGreatDoorJSV
namespace Go.Proofs.YtkodmpcnndbngaaGreatDoor
open Go.RowKit
set_option maxRecDepth 20000

/-- What apply keeps: the spot's box, the result's box. -/
structure A1 (w W : World) (s : Sp) : Prop where
  sp : SpAt W w.heap.size s
  rz : FAt W (w.heap.size + 1) frZ
  ok : SpOk W s
  bel : Below w.heap.size w W
theorem A1.below {w W W' : World} {s : Sp} (h : A1 w W s) (hb : Below W.heap.size W W') : A1 w W' s :=
  ⟨h.sp.below hb h.sp.lt, h.rz.below hb h.rz.lt, h.ok.below hb, h.bel.trans (hb.mono h.bel.size)⟩
theorem RuAt.below {W W' : World} {g : Nat} {cs : Array Value} {B : Nat} (h : RuAt W g cs) (hb : Below B W W') (hg : g < B) : RuAt W' g cs := (hb.block g hg).trans h
theorem RuAt.c {W : World} {g : Nat} {cs : Array Value} (h : RuAt W g cs) (i : Nat) : W.cell? ⟨g, i, none⟩ = cs[i]? := cell_of_row _ _ _ _ _ _ h
theorem SpAt.che {W : World} {g : Nat} {s : Sp} (h : SpAt W g s) : W.cell? ⟨g, 4, none⟩ = some (.int .i64 s.f.he) := h.cell (spL_fr (j := 1) rfl)
theorem neq_nil (W : World) : (binOp .neq 72 .nilFunc .nilFunc).run Tryz.prog W = .ok (.bool false) W := by kernel_rfl
theorem neq_fv (W : World) (k : Nat) : (binOp .neq 72 (fv k) .nilFunc).run Tryz.prog W = .ok (.bool true) W := by kernel_rfl
theorem PAt.other {W W' : World} {ga : Option Addr} {l : List Nat} (h : PAt W ga l) (hh : ∀ b o, ga = some ⟨b, o, none⟩ → ∀ i, i < l.length → W'.cell? ⟨b, o + i, none⟩ = W.cell? ⟨b, o + i, none⟩) : PAt W' ga l := fun i t ht => by
  obtain ⟨b, off, e, hc⟩ := h i t ht
  exact ⟨b, off, e, (hh b off e i (List.getElem?_eq_some_iff.1 ht).1).trans hc⟩

set_option maxRecDepth 20000 in
set_option maxHeartbeats 8000000 in
theorem apply_any (s : Sp) (w : World) (hok : SpOk w s) (hfi : FrIs s.T.length s.f) : Calls Tryz.prog 17 #[.agg (spA s)] w fun e w' => e = .returned (frTwo (applyS s)) ∧ Below w.heap.size w w' := by
  have al1 := (Below.refl w.heap.size w).alloc (Nat.le_refl _) (.cells (spA s) 51)
  have al := al1.alloc (by simp) (.cells (frA frZ) 29)
  have n1 := SpAt.new w s
  have n2 := FAt.new (w.alloc (.cells (spA s) 51)) frZ
  rw [World.size_alloc] at n2
  have HA : Hid (A1 w ((w.alloc (.cells (spA s) 51)).alloc (.cells (frA frZ) 29)) s) := hide ⟨n1.below ((Below.refl _ _).alloc (Nat.le_refl _) _) (by simp), n2, hok.below al, al⟩
  have HOK0 := hide hok
  have hfr := hok.fr
  have HFI := hide hfi
  have HCAN := hide hok.can
  have hbz := run_buildZ
  have HE : Hid (∀ (X : Fr × Int) (W : World), applyS s = X → Below w.heap.size w W → (Ending.returned (frTwo X) = .returned (frTwo (applyS s)) ∧ Below w.heap.size w W)) := hide (fun X W h hB => ⟨by rw [h], hB⟩)
  clear al1 al n1 n2 hok hfi
  go_enter Tryz.func17, Tryz.ntmps17
  go_upto_region 1 with fail
  rw [frZ_eq]
  generalize ((w.alloc (.cells (spA s) 51)).alloc (.cells (frA frZ) 29)) = W1 at HA ⊢
  go_wp2_with (refine wpList_load_rowG (by kernel_rfl) 51 (.tmp 1) rfl w.heap.size rfl 51 (spA s) (0, 0) _ (unhide HA).sp Tryz.underlying51 rfl (sizeSp hfr) ?_)
  refine (missing_any s W1 (unhide HA).ok).mono ?_
  rintro e W2 ⟨rfl, hB2⟩
  have HA2 := hide ((unhide HA).below hB2)
  clear hB2 HA W1
  by_cases hm : missD s = 0
  rotate_left
  · have HR : Hid (applyS s = (frZ, missD s)) := hide (by unfold applyS; rw [if_pos hm])
    have b1 : (missD s != 0) = true := bne_t hm
    clear hm
    generalize missD s = er at HR b1 ⊢
    go_wp2_with (refine wpList_store_row rfl 29 (.tmp 2) (.tmp 13) rfl (w.heap.size + 1) (frA frZ) rfl rfl 29 (frA frZ) (unhide HA2).rz (sizeFr frZ_ok) rfl (frA_one _) ?_)
    exact bodyPost_ret (v := frTwo (frZ, er)) (results_fr2 rfl _ _ (w.heap.size + 1) frZ er frZ_ok rfl rfl ((unhide HA2).rz.row _)) rfl (unhide HE _ _ (unhide HR) (below_setRow' (unhide HA2).bel (by omega) _))
  have hu := miss_unk hm
  have h34 := unk_op hu
  obtain ⟨n, m, v, hR⟩ := rule_of s hu
  have HRU := hide hR
  have HM := hide hm
  have HTL : Hid ((tkD s).length ≤ 8) := hide (tk_len s (unhide HCAN) s.op h34)
  have HTV : Hid (∀ t ∈ tkD s, t < 256) := hide (fun t ht => valid_byte (unhide HCAN).made (tk_valid s (unhide HCAN) s.op h34 hu t ht))
  have HGV : Hid (∀ tk : List Nat, (∀ t ∈ tk, validD s.T.length t = true) → ∀ t ∈ gvD s tk, t < 256) := hide (fun tk htk t ht => valid_byte (unhide HCAN).made (gv_valid s (unhide HCAN) (unhide HFI) htk s.op h34 hu t ht))
  have HGL : Hid (∀ tk : List Nat, (gvD s tk).length ≤ 8) := hide (fun tk => gv_len s tk s.op h34)
  rw [hm]
  clear hm hu hR h34
  go_wp2_with (refine wpList_load_rowG (by kernel_rfl) 51 (.tmp 1) rfl w.heap.size rfl 51 (spA s) (0, 0) _ (unhide HA2).sp Tryz.underlying51 rfl (sizeSp hfr) ?_)
  refine ((unhide HRU).rule W2 hfr).mono ?_
  rintro e W3 ⟨rfl, hB3⟩
  have HA3 := hide ((unhide HA2).below hB3)
  clear hB3 HA2 W2
  have HON : Hid ((#[fv n, fv m, v] : Array Value).all (·.oneCell') = true) := hide (by
    rcases (unhide HRU).also (tkD s) rfl with ⟨h, _⟩ | ⟨k, h, _⟩
    · rw [h]; simp [Value.oneCell']
    · rw [h]; simp [Value.oneCell'])
  have al := (Below.refl W3.heap.size W3).alloc (Nat.le_refl _) (.cells #[.nilFunc, .nilFunc, .nilFunc] 74)
  have HAn := hide ((unhide HA3).below al)
  have HN : Hid (RuAt (W3.alloc (.cells #[.nilFunc, .nilFunc, .nilFunc] 74)) W3.heap.size #[.nilFunc, .nilFunc, .nilFunc]) := hide (heap_alloc_new W3 _)
  have HGR : Hid (w.heap.size + 1 < W3.heap.size) := hide (unhide HA3).rz.lt
  have HA3' := HA3
  clear al HA3
  go_upto_region 5 with (refine wpList_store_rowN rfl 74 (.tmp 5) (.tmp 16) rfl W3.heap.size #[fv n, fv m, v] rfl rfl 74 #[.nilFunc, .nilFunc, .nilFunc] (unhide HN) (by kernel_rfl) rfl (unhide HON) (fun W4 hW4 => ?_))
  have hBs : Below W3.heap.size W3 W4 := by rw [← hW4]; exact below_setRow' ((Below.refl W3.heap.size W3).alloc (Nat.le_refl _) _) (Nat.le_refl _) _
  have HRB : Hid (RuAt W4 W3.heap.size #[fv n, fv m, v]) := hide (by rw [← hW4]; exact setRow_heap _ _ _ _ _ _ (unhide HN))
  have HA4 := hide ((unhide HA3').below hBs)
  clear hW4 hBs HAn HN HA3'
  generalize W3.heap.size = gR at HRB HGR ⊢
  clear W3
  have c0 : W4.cell? ⟨gR, 0, none⟩ = some (fv n) := (unhide HRB).c 0
  go_wp2_with (refine wpList_load_rowG (by kernel_rfl) 51 (.tmp 1) rfl w.heap.size rfl 51 (spA s) (0, 0) _ (unhide HA4).sp Tryz.underlying51 rfl (sizeSp hfr) ?_)
  rw [(unhide HRU).entT]
  refine ((unhide HRU).takes W4 (unhide HA4).ok).mono ?_
  rintro e W5 ⟨⟨wa, wc, rfl, hP⟩, hB5⟩
  have HA5 := hide ((unhide HA4).below hB5)
  have HRB5 := hide ((unhide HRB).below hB5 (unhide HRB).lt)
  have HPW := hide hP
  clear hB5 hP HA4 HRB c0 W4
  obtain ⟨tn, HTN⟩ : ∃ tn, Hid ((tkD s).length = tn) := ⟨_, hide rfl⟩
  rw [unhide HTN] at HTL ⊢
  have htl := unhide HTL
  have kh := (unhide HA5).sp.che
  by_cases hhe : s.f.he < ((tn : Nat) : Int)
  · have HR : Hid (applyS s = (frZ, 30)) := hide (by unfold applyS; rw [if_neg (by rw [unhide HM]; simp), unhide HTN, if_pos hhe])
    go_wp2_with (refine wpList_store_row rfl 29 (.tmp 2) (.tmp 27) rfl (w.heap.size + 1) (frA frZ) rfl rfl 29 (frA frZ) (unhide HA5).rz (sizeFr frZ_ok) rfl (frA_one _) ?_)
    exact bodyPost_ret (v := frTwo (frZ, 30)) (results_fr2 rfl _ _ (w.heap.size + 1) frZ 30 frZ_ok rfl rfl ((unhide HA5).rz.row _)) rfl (unhide HE _ _ (unhide HR) (below_setRow' (unhide HA5).bel (by omega) _))
  have HHE := hide hhe
  have HLE : Hid ((tn : Int) ≤ s.f.he) := hide (by omega)
  have HPO := hide (fun W => pop_any s.T.length s.f tn W (unhide HFI) (unhide HLE))
  have HOKP := hide (popK_ok (unhide HFI) (unhide HLE))
  go_wp2_with (refine wpList_load_mid rfl 29 (.tmp 29) rfl w.heap.size 3 rfl (frL s.f) _ (unhide HA5).sp.range Tryz.underlying29 rfl (sizeFrL hfr) ?_)
  refine (unhide HPO W5).mono ?_
  rintro e W6 ⟨⟨ga, rfl, hPT⟩, hB6⟩
  have HA6 := hide ((unhide HA5).below hB6)
  have HRB6 := hide ((unhide HRB5).below hB6 (unhide HRB5).lt)
  have HPW6 := hide ((unhide HPW).below hB6)
  have HPT := hide hPT
  clear hB6 hPT HA5 HRB5 HPW kh HPO
  obtain ⟨X, HX⟩ : ∃ X, Hid (popK s.f tn = X) := ⟨_, hide rfl⟩
  rw [unhide HX] at HOKP ⊢
  have Z : Hid (FAt (W6.alloc (.cells (frA frZ) 29)) W6.heap.size frZ) := hide (FAt.new W6 frZ)
  have al := (Below.refl W6.heap.size W6).alloc (Nat.le_refl _) (.cells (frA frZ) 29)
  have HAz := hide ((unhide HA6).below al)
  have HRBz := hide ((unhide HRB6).below al (unhide HRB6).lt)
  have HPWz := hide ((unhide HPW6).below al)
  have HPTz := hide ((unhide HPT).below al)
  have HGF : Hid (w.heap.size + 1 < W6.heap.size ∧ gR < W6.heap.size) := hide ⟨(unhide HA6).rz.lt, (unhide HRB6).lt⟩
  have HPB : Hid (∀ b o, ga = some ⟨b, o, none⟩ → 0 < tn → b < W6.heap.size) := hide (fun b o e h => by
      have hx := List.getElem?_eq_getElem (show 0 < (takenD s.f tn).length by rw [taken_len (unhide HFI) (unhide HLE)]; exact h)
      obtain ⟨b', o', e', hc⟩ := unhide HPT 0 _ hx
      rw [e] at e'
      injection e' with e'
      injection e' with e1 e2
      subst e1
      exact World.block_lt_of_cell? W6 _ hc)
  go_upto_region 9 with (refine wpList_store_rowN rfl 29 (.tmp 7) (.tmp 34) rfl W6.heap.size (frA X) rfl rfl 29 (frA frZ) (unhide Z) (sizeFr (unhide HOKP)) (sizeEq frZ_ok (unhide HOKP)) (frA_one _) (fun W7 hW7 => ?_))
  have hBs : Below W6.heap.size W6 W7 := by rw [← hW7]; exact below_setRow' ((Below.refl W6.heap.size W6).alloc (Nat.le_refl _) _) (Nat.le_refl _) _
  have HF7 : Hid (FAt W7 W6.heap.size X) := hide (by rw [← hW7]; exact (unhide Z).row X)
  have HA7 := hide ((unhide HA6).below hBs)
  have HRB7 := hide ((unhide HRB6).below hBs (unhide HRB6).lt)
  have HPW7 := hide ((unhide HPW6).below hBs)
  have HPT7 := hide ((unhide HPT).below hBs)
  clear hW7 hBs Z al HAz HRBz HPWz HPTz HA6 HRB6 HPW6 HPT
  generalize W6.heap.size = gF at HF7 HGF HPB ⊢
  clear W6
  have HTKV : Hid (∀ t ∈ takenD s.f tn, validD s.T.length t = true) := hide (fun t ht => by
    obtain ⟨i, hi, rfl⟩ := List.mem_iff_getElem.1 ht
    exact (taken_valid (unhide HFI) (unhide HLE) (List.getElem?_eq_getElem hi)).1)
  have HTKL : Hid ((takenD s.f tn).length = tn) := hide (taken_len (unhide HFI) (unhide HLE))
  have HGVB := hide (unhide HGV (takenD s.f tn) (unhide HTKV))
  have HGI : Hid (∀ W, SpOk W s → PAt W ga (takenD s.f tn) → Calls Tryz.prog m #[.agg (spA s), .slice ga tn tn] W (Row W (gvD s (takenD s.f tn)))) := hide (fun W h1 h2 => by
    have := (unhide HRU).gives W (takenD s.f tn) ga tn h1 h2 (by rw [unhide HTKL, unhide HTN])
    rw [unhide HTKL] at this
    exact this)
  have HPS : Hid (∀ Y W va vc, FrOk Y → PAt W va (gvD s (takenD s.f tn)) → Calls Tryz.prog 37 #[.agg (frA Y), .slice va (gvD s (takenD s.f tn)).length vc] W fun e w' => e = .returned (.tuple #[.agg (frA (pushA Y (gvD s (takenD s.f tn))).1), .int .i64 (pushA Y (gvD s (takenD s.f tn))).2]) ∧ Below W.heap.size W w') := hide (fun Y W va vc h1 h2 => push_any Y _ va vc W h1 (unhide HGVB) h2 (by have := unhide HGL (takenD s.f tn); omega))
  have HSET : Hid (∀ We Y, A1 w We s → A1 w (We.setRow gF (frA Y)) s) := hide (fun We Y hA => by
    have hg := unhide HGF
    exact ⟨(setRow_other _ _ _ _ (by omega)).trans hA.sp, hA.rz.rowOther _ (by omega), (unhide HOK0).below (below_setRow' hA.bel (by omega) _), below_setRow' hA.bel (by omega) _⟩)
  have k0 := (unhide HA7).sp.c0
  have HALL : Hid (Calls Tryz.prog 35 #[.slice s.ao s.T.length s.cap, .slice ga tn tn, .slice wa tn wc] W7 fun e w' => e = .returned (.bool (allO s.T (takenD s.f tn) (tkD s))) ∧ Below W7.heap.size W7 w') := hide (by
    have := allOf_any s.ao s.cap s.T ga wa tn wc (takenD s.f tn) (tkD s) W7 (unhide HA7).ok.tab (unhide HPT7) (unhide HPW7) (by rw [unhide HTKL, unhide HTN]) (fun t ht => valid_byte (unhide HCAN).made (unhide HTKV t ht)) (unhide HTV) (by rw [unhide HTKL]; omega)
    rw [unhide HTKL, unhide HTN] at this
    exact this)
  go_wp2_with fail
  refine (unhide HALL).mono ?_
  rintro e W8 ⟨rfl, hB8⟩
  have HA8 := hide ((unhide HA7).below hB8)
  have HRB8 := hide ((unhide HRB7).below hB8 (unhide HRB7).lt)
  have HF8 := hide ((unhide HF7).below hB8 (unhide HF7).lt)
  have HPT8 := hide ((unhide HPT7).below hB8)
  clear hB8 HA7 HRB7 HF7 HPT7 HPW7 k0 HALL
  cases hall : allO s.T (takenD s.f tn) (tkD s)
  · have HR : Hid (applyS s = (frZ, 70)) := hide (by unfold applyS; rw [if_neg (by rw [unhide HM]; simp), unhide HTN, if_neg (by omega), hall, Bool.false_and, if_pos rfl])
    clear hall
    go_upto_region 10 with fail
    go_wp2_with (refine wpList_store_row rfl 29 (.tmp 2) (.tmp 56) rfl (w.heap.size + 1) (frA frZ) rfl rfl 29 (frA frZ) (unhide HA8).rz (sizeFr frZ_ok) rfl (frA_one _) ?_)
    exact bodyPost_ret (v := frTwo (frZ, 70)) (results_fr2 rfl _ _ (w.heap.size + 1) frZ 70 frZ_ok rfl rfl ((unhide HA8).rz.row _)) rfl (unhide HE _ _ (unhide HR) (below_setRow' (unhide HA8).bel (by omega) _))
  have HFINAL : Hid (alD s (takenD s.f tn) = true → ¬ (s.op = 22 ∧ 0 < X.he) → applyS s = pushA (frS s) (gvD s (takenD s.f tn))) := hide (fun h1 h2 => by
    unfold applyS
    rw [if_neg (by rw [unhide HM]; simp), unhide HTN, if_neg (by omega), hall, h1, if_neg (by decide), unhide HX, if_neg h2])
  have HALC := hide hall
  clear hall
  have c2 : W8.cell? ⟨gR, 2, none⟩ = some v := (unhide HRB8).c 2
  rcases (unhide HRU).also (takenD s.f tn) (by rw [unhide HTKL, unhide HTN]) with ⟨hv, hal⟩ | ⟨k, hv, hent, hcl⟩
  · have HOKB : Hid ((allO s.T (takenD s.f tn) (tkD s) && alD s (takenD s.f tn)) = true) := hide (by rw [unhide HALC, hal]; rfl)
    have HFINAL := hide (unhide HFINAL hal)
    rw [hv] at c2
    have HV := hide hv
    have hq := neq_nil W8
    clear hal hv
    go_upto_region 11 with fail
    clear c2
    have ko : W8.cell? ⟨w.heap.size, 30, none⟩ = some (.int .u8 (s.op : Int)) := (unhide HA8).sp.cop hfr
    have kx : W8.cell? ⟨gF, 1, none⟩ = some (.int .i64 X.he) := (unhide HF8).he
    by_cases h22 : s.op = 22
    · have t22 : (((s.op : Nat) : Int) == 22) = true := beq_t (by omega)
      have t5 : (((s.op : Nat) : Int) == 5) = false := beq_f (by omega)
      by_cases hx0 : X.he > 0
      · have HR : Hid (applyS s = (frZ, 73)) := hide (by unfold applyS; rw [if_neg (by rw [unhide HM]; simp), unhide HTN, if_neg (by omega), unhide HOKB, if_neg (by decide), unhide HX, if_pos ⟨h22, hx0⟩])
        clear h22
        go_upto_region 12 with fail
        go_wp2_with (refine wpList_store_row rfl 29 (.tmp 2) (.tmp 66) rfl (w.heap.size + 1) (frA frZ) rfl rfl 29 (frA frZ) (unhide HA8).rz (sizeFr frZ_ok) rfl (frA_one _) ?_)
        exact bodyPost_ret (v := frTwo (frZ, 73)) (results_fr2 rfl _ _ (w.heap.size + 1) frZ 73 frZ_ok rfl rfl ((unhide HA8).rz.row _)) rfl (unhide HE _ _ (unhide HR) (below_setRow' (unhide HA8).bel (by omega) _))
      · have HR : Hid (applyS s = pushA X (gvD s (takenD s.f tn))) := hide (by
          refine (unhide HFINAL (by omega)).trans ?_
          congr 1
          unfold frS
          rw [if_neg (by omega), unhide HTN, unhide HX])
        clear h22
        obtain ⟨Y, HY⟩ : ∃ Y, Hid (X = Y) := ⟨_, hide rfl⟩
        have HOY : Hid (FrOk Y) := hide (by rw [← unhide HY]; exact unhide HOKP)
        have HF9 : Hid (FAt W8 gF Y) := hide (by rw [← unhide HY]; exact unhide HF8)
        rw [unhide HY] at HR
        have HA9 := HA8
        have HRB9 := HRB8
        have HPT9 := HPT8
        have HAd : Hid (A1 w W8.drew s) := hide ((unhide HA9).below (belowD (Below.refl _ _) 1))
        have HRBd : Hid (RuAt W8.drew gR #[fv n, fv m, v]) := hide (unhide HRB9)
        have HFd : Hid (FAt W8.drew gF Y) := hide (unhide HF9)
        have HPTd : Hid (PAt W8.drew ga (takenD s.f tn)) := hide ((unhide HPT9).below (belowD (Below.refl _ _) 1))
        go_upto_region 15 with fail
        refine wp_region_held_drew (S := fun w' => SpAt w' w.heap.size s ∧ RuAt w' gR #[fv n, fv m, v] ∧ FAt w' gF Y) (by kernel_rfl) ⟨(unhide HA9).sp, unhide HRB9, unhide HF9⟩ (fun hS => ?_)
        clear HA9 HRB9 HF9 HPT9
        generalize W8.drew = Wd at HAd HRBd HFd HPTd hS ⊢
        refine wpAnyH_take (i := 0) (v := .agg (frA Y)) rfl (by kernel_rfl) (by kernel_rfl) (by kernel_rfl) (fun _ _ _ h => h) (yieldsIf_load_fr (by rfl) _ rfl gF rfl Y (unhide HOY) (fun _ h => h.2.2)) hS ?_
        refine wpAnyH_take (i := 1) (v := .pointer (some ⟨gR, 1, none⟩)) rfl (by kernel_rfl) (by kernel_rfl) (by kernel_rfl) (fun _ _ _ h => h) (Or.inl ⟨by rfl, fun W h => by go_simp⟩) hS ?_
        refine wpAnyH_take (i := 2) (v := fv m) rfl (by kernel_rfl) (by kernel_rfl) (by kernel_rfl) (fun _ _ _ h => h) (Or.inl ⟨by rfl, fun W h => by have hb : W.cell? ⟨gR, 1, none⟩ = some (fv m) := (RuAt.c h.2.1 1); go_simp⟩) hS ?_
        go_simp
        refine wpAnyH_take (i := 3) (v := .agg (spA s)) rfl (by kernel_rfl) (by kernel_rfl) (by kernel_rfl) (fun _ _ _ h => h) (yieldsIf_load_mid (by rfl) 51 _ rfl w.heap.size 0 rfl (spL s) _ (fun _ h => SpAt.all h.1) Tryz.underlying51 rfl (by rw [show (spL s).length = 33 from by have := spA_size hfr; simpa [spA] using this]; kernel_rfl)) hS ?_
        refine wpAnyH_take (i := 4) (v := .slice ga tn tn) rfl (by kernel_rfl) (by kernel_rfl) (by kernel_rfl) (fun _ _ _ h => h) (Or.inl ⟨by rfl, fun W h => by go_simp⟩) hS ?_
        refine wpAnyH_ready (rs := [5]) (by kernel_rfl) (by simp) ?_
        refine AllReadyH.cons rfl (fun K hK => ?_) AllReadyH.nil
        go_simp
        rw [(unhide HRU).entG]
        refine (unhide HGI Wd (unhide HAd).ok (unhide HPTd)).mono ?_
        rintro e Wa ⟨⟨va, vc, rfl, hPv⟩, hBa⟩
        have HAa := hide ((unhide HAd).below hBa)
        have HRBa := hide ((unhide HRBd).below hBa (unhide HRBd).lt)
        have HFa := hide ((unhide HFd).below hBa (unhide HFd).lt)
        have HPv := hide hPv
        refine hK.out _ _ ⟨(unhide HAa).sp, unhide HRBa, unhide HFa⟩ (fun hS2 => ?_)
        clear hK K hS hBa HAd HRBd HFd HPTd hPv
        refine wpAnyH_ready (rs := [6]) (by kernel_rfl) (by simp) ?_
        refine AllReadyH.cons rfl (fun K hK => ?_) AllReadyH.nil
        go_simp
        go_wp2_with (go_at_call 37; refine (unhide HPS Y Wa va vc (unhide HOY) (unhide HPv)).mono ?_; rintro e Wb ⟨rfl, hBb⟩)
        have HAb := hide ((unhide HAa).below hBb)
        have HRBb := hide ((unhide HRBa).below hBb (unhide HRBa).lt)
        have HFb := hide ((unhide HFa).below hBb (unhide HFa).lt)
        refine hK.out _ _ ⟨(unhide HAb).sp, unhide HRBb, unhide HFb⟩ (fun hS3 => ?_)
        clear hK K hS2 hBb HAa HRBa HFa HPv
        have HOR := hide (pushA_ok (gvD s (takenD s.f tn)) Y (unhide HOY) (unhide HGVB))
        have HR2 : Hid (applyS s = ((pushA Y (gvD s (takenD s.f tn))).1, (pushA Y (gvD s (takenD s.f tn))).2)) := hide (unhide HR)
        generalize (pushA Y (gvD s (takenD s.f tn))).1 = F at HOR HR2 ⊢
        generalize (pushA Y (gvD s (takenD s.f tn))).2 = er at HR2 ⊢
        refine wpAnyH_take (i := 7) (v := .agg (frA F)) rfl (by kernel_rfl) (by kernel_rfl) (by kernel_rfl) (fun _ _ _ h => h) (Or.inl ⟨by rfl, fun W h => by go_simp⟩) hS3 ?_
        refine wpAnyH_take (i := 8) (v := .int .i64 er) rfl (by kernel_rfl) (by kernel_rfl) (by kernel_rfl) (fun _ _ _ h => h) (Or.inl ⟨by rfl, fun W h => by go_simp⟩) hS3 ?_
        refine wpAnyH_ready (rs := [9]) (by kernel_rfl) (by simp) ?_
        refine AllReadyH.cons rfl (fun K hK => ?_) AllReadyH.nil
        rw [if_pos (by rfl)]
        refine wp_store_row 29 _ _ rfl (w.heap.size + 1) (frA F) rfl rfl 29 (frA frZ) (unhide HAb).rz (sizeFr (unhide HOR)) (sizeEq frZ_ok (unhide HOR)) (frA_one _) ?_
        refine hK.out _ _ ⟨(setRow_other _ _ _ _ (by omega)).trans (unhide HAb).sp, (setRow_other _ _ _ _ (by have := unhide HGR; omega)).trans (unhide HRBb), (setRow_other _ _ _ _ (by have := unhide HGF; omega)).trans (unhide HFb)⟩ (fun hS4 => ?_)
        clear hK K hS3
        refine wpAnyH_take (i := 10) (v := .int .i64 er) rfl (by kernel_rfl) (by kernel_rfl) (by kernel_rfl) (fun _ _ _ h => h) (Or.inl ⟨by rfl, fun W h => by go_simp⟩) hS4 ?_
        refine wpAnyH_done (by kernel_rfl) ?_ _
        go_wp2_with fail
        exact bodyPost_ret (v := frTwo (F, er)) (results_fr2 rfl _ _ (w.heap.size + 1) F er (unhide HOR) rfl rfl ((unhide HAb).rz.row _)) rfl (unhide HE _ _ (unhide HR2) (below_setRow' (unhide HAb).bel (by omega) _))
    have t22 : (((s.op : Nat) : Int) == 22) = false := beq_f (by omega)
    by_cases h5 : s.op = 5
    · have t5 : (((s.op : Nat) : Int) == 5) = true := beq_t (by omega)
      have HIA : Hid (0 ≤ s.a ∧ s.a < (popK s.f tn).lo) := hide (by
        have hm := unhide HM
        unfold missD at hm
        rw [if_pos (Or.inr h5)] at hm
        exact ⟨(load_good hm).2.1, (load_good hm).2.2⟩)
      have htn1 : 0 < tn := by
          have h1 : (tkD s).length = 1 := by unfold tkD; rw [h5]; rfl
          have h2 := unhide HTN
          omega
      have HAd : Hid (A1 w W8.drew s) := hide ((unhide HA8).below (belowD (Below.refl _ _) 1))
      have HRBd : Hid (RuAt W8.drew gR #[fv n, fv m, v]) := hide (unhide HRB8)
      have HFd : Hid (FAt W8.drew gF X) := hide (unhide HF8)
      have HPTd : Hid (PAt W8.drew ga (takenD s.f tn)) := hide ((unhide HPT8).below (belowD (Below.refl _ _) 1))
      obtain ⟨t0, hx⟩ : ∃ t0, (takenD s.f tn)[0]? = some t0 := ⟨_, List.getElem?_eq_getElem (show 0 < (takenD s.f tn).length by rw [taken_len (unhide HFI) (unhide HLE)]; omega)⟩
      obtain ⟨b, off, ep, hct⟩ := unhide HPT8 0 _ hx
      have HT0 : Hid ((takenD s.f tn).getD 0 0 = t0) := hide (by rw [List.getD_eq_getElem?_getD, hx]; rfl)
      have HTB0 : Hid (t0 < 256 ∧ validD s.T.length t0 = true) := hide ⟨(taken_valid (unhide HFI) (unhide HLE) hx).2, (taken_valid (unhide HFI) (unhide HLE) hx).1⟩
      rw [Nat.add_zero] at hct
      have HBG : Hid (b < gF) := hide (unhide HPB b off ep (by omega))
      rw [ep]
      have HEP := hide ep
      have ka : W8.cell? ⟨w.heap.size, 31, none⟩ = some (.int .i64 s.a) := (unhide HA8).sp.ca hfr
      have n0 : ¬ tn = 0 := by omega
      have j0 : (0 : Int) < ((tn : Nat) : Int) := by omega
      clear hx ep
      go_upto_region 14 with fail
      refine wp_region_held_drew (S := fun w' => w'.cell? ⟨w.heap.size, 31, none⟩ = some (.int .i64 s.a) ∧ w'.cell? ⟨b, off, none⟩ = some (.int .u8 (t0 : Int))) (by kernel_rfl) ⟨ka, hct⟩ (fun hS => ?_)
      clear HA8 HRB8 HF8 HPT8 ka
      have hlb := World.block_lt_of_cell? W8 _ hct
      have HLB : Hid (b < W8.drew.heap.size) := hide hlb
      clear hct hlb
      generalize W8.drew = Wd at HAd HRBd HFd HPTd hS HLB ⊢
      refine wpAnyH_take (i := 1) (v := .pointer (some ⟨w.heap.size, 29, none⟩)) rfl (by kernel_rfl) (by kernel_rfl) (by kernel_rfl) (fun _ _ _ h => h) (Or.inl ⟨by rfl, fun W h => by obtain ⟨h0, h1⟩ := h; go_simp⟩) hS ?_
      refine wpAnyH_take (i := 2) (v := .pointer (some ⟨w.heap.size, 31, none⟩)) rfl (by kernel_rfl) (by kernel_rfl) (by kernel_rfl) (fun _ _ _ h => h) (Or.inl ⟨by rfl, fun W h => by obtain ⟨h0, h1⟩ := h; go_simp⟩) hS ?_
      refine wpAnyH_take (i := 3) (v := .int .i64 s.a) rfl (by kernel_rfl) (by kernel_rfl) (by kernel_rfl) (fun _ _ _ h => h) (Or.inl ⟨by rfl, fun W h => by obtain ⟨h0, h1⟩ := h; go_simp⟩) hS ?_
      go_simp
      refine wpAnyH_take (i := 4) (v := .slice (some ⟨b, off, none⟩) tn tn) rfl (by kernel_rfl) (by kernel_rfl) (by kernel_rfl) (fun _ _ _ h => h) (Or.inl ⟨by rfl, fun W h => by obtain ⟨h0, h1⟩ := h; go_simp⟩) hS ?_
      refine wpAnyH_take (i := 5) (v := .pointer (some ⟨b, off, none⟩)) rfl (by kernel_rfl) (by kernel_rfl) (by kernel_rfl) (fun _ _ _ h => h) (Or.inl ⟨by rfl, fun W h => by obtain ⟨h0, h1⟩ := h; go_simp⟩) hS ?_
      refine wpAnyH_take (i := 6) (v := .int .u8 (t0 : Int)) rfl (by kernel_rfl) (by kernel_rfl) (by kernel_rfl) (fun _ _ _ h => h) (Or.inl ⟨by rfl, fun W h => by obtain ⟨h0, h1⟩ := h; go_simp⟩) hS ?_
      go_simp
      refine wpAnyH_ready (rs := [0]) (by kernel_rfl) (by simp) ?_
      refine AllReadyH.cons rfl (fun K hK => ?_) AllReadyH.nil
      rw [if_pos (by rfl)]
      refine wp_load_mid 29 _ rfl gF 0 rfl (frL X) _ (unhide HFd).range Tryz.underlying29 rfl (sizeFrL (unhide HOKP)) ?_
      refine hK.out _ _ hS (fun hS2 => ?_)
      clear hK K hS
      refine wpAnyH_ready (rs := [7]) (by kernel_rfl) (by simp) ?_
      refine AllReadyH.cons rfl (fun K hK => ?_) AllReadyH.nil
      go_simp
      go_wp2_with (go_at_call 36; refine (Store_any X s.a t0 Wd (unhide HOKP) (unhide HAd).ok.a (unhide HTB0).1).mono ?_; rintro e We ⟨rfl, hBe⟩)
      have HAe := hide ((unhide HAd).below hBe)
      have HRBe := hide ((unhide HRBd).below hBe (unhide HRBd).lt)
      have HFe := hide ((unhide HFd).below hBe (unhide HFd).lt)
      have HPTe := hide ((unhide HPTd).below hBe)
      refine hK.out _ _ ⟨(unhide HAe).sp.ca hfr, (hBe.cell (p := ⟨b, off, none⟩) (unhide HLB)).trans hS2.2⟩ (fun hS3 => ?_)
      clear hK K hS2 hBe HAd HRBd HFd HPTd HLB
      obtain ⟨Y, HY⟩ : ∃ Y, Hid ((storeD X s.a t0).1 = Y) := ⟨_, hide rfl⟩
      have HTS : Hid (frTwo (storeD X s.a t0) = .tuple #[.agg (frA Y), .int .i64 (storeD X s.a t0).2]) := hide (by rw [← unhide HY]; rfl)
      rw [unhide HTS]
      clear HTS
      have HOY : Hid (FrOk Y) := hide (by rw [← unhide HY, ← unhide HX]; exact (store_is (popK_is (unhide HFI) (unhide HLE)) (unhide HIA) (unhide HTB0).2 (unhide HTB0).1).ok)
      refine wpAnyH_take (i := 8) (v := .tuple #[.agg (frA Y), .int .i64 (storeD X s.a t0).2]) rfl (by kernel_rfl) (by kernel_rfl) (by kernel_rfl) (fun _ _ _ h => h) (Or.inl ⟨by rfl, fun W h => by go_simp⟩) hS3 ?_
      refine wpAnyH_take (i := 9) (v := .agg (frA Y)) rfl (by kernel_rfl) (by kernel_rfl) (by kernel_rfl) (fun _ _ _ h => h) (Or.inl ⟨by rfl, fun W h => by go_simp⟩) hS3 ?_
      refine wpAnyH_take (i := 10) (v := .int .i64 (storeD X s.a t0).2) rfl (by kernel_rfl) (by kernel_rfl) (by kernel_rfl) (fun _ _ _ h => h) (Or.inl ⟨by rfl, fun W h => by go_simp⟩) hS3 ?_
      go_simp
      refine wpAnyH_ready (rs := [11]) (by kernel_rfl) (by simp) ?_
      refine AllReadyH.cons rfl (fun K hK => ?_) AllReadyH.nil
      rw [if_pos (by rfl)]
      refine wp_store_row 29 _ _ rfl gF (frA Y) rfl rfl 29 (frA X) (unhide HFe) (sizeFr (unhide HOY)) (sizeEq (unhide HOKP) (unhide HOY)) (frA_one _) ?_
      refine hK.out _ _ ⟨(cell_setRow_other We gF (frA Y) ⟨w.heap.size, 31, none⟩ (by have := unhide HGF; show w.heap.size ≠ gF; omega)).trans hS3.1, (cell_setRow_other We gF (frA Y) ⟨b, off, none⟩ (by have := unhide HBG; show b ≠ gF; omega)).trans hS3.2⟩ (fun hS4 => ?_)
      clear hK K hS3 hS4
      have hBs : Below gF We (We.setRow gF (frA Y)) := below_setRow' (Below.refl _ _) (Nat.le_refl _) _
      have HRB9 : Hid (RuAt (We.setRow gF (frA Y)) gR #[fv n, fv m, v]) := hide ((unhide HRBe).below hBs (unhide HGF).2)
      have HF9 := hide ((unhide HFe).row Y)
      have HPT9 : Hid (PAt (We.setRow gF (frA Y)) ga (takenD s.f tn)) := hide ((unhide HPTe).row _ (fun b' o' e' => by rw [unhide HEP] at e'; injection e' with e'; injection e' with e1 e2; have := unhide HBG; omega))
      have HA9 : Hid (A1 w (We.setRow gF (frA Y)) s) := hide (unhide HSET We Y (unhide HAe))
      have HR : Hid (applyS s = pushA Y (gvD s (takenD s.f tn))) := hide (by
        refine (unhide HFINAL (by omega)).trans ?_
        congr 1
        unfold frS
        rw [if_pos h5, unhide HTN, unhide HX, unhide HT0]
        exact unhide HY)
      rw [← unhide HEP]
      clear hBs HRBe HFe HPTe HAe
      generalize We.setRow gF (frA Y) = W9 at HRB9 HF9 HPT9 HA9 ⊢
      refine wpAnyH_done (by kernel_rfl) ?_ _
      have HAd : Hid (A1 w W9.drew s) := hide ((unhide HA9).below (belowD (Below.refl _ _) 1))
      have HRBd : Hid (RuAt W9.drew gR #[fv n, fv m, v]) := hide (unhide HRB9)
      have HFd : Hid (FAt W9.drew gF Y) := hide (unhide HF9)
      have HPTd : Hid (PAt W9.drew ga (takenD s.f tn)) := hide ((unhide HPT9).below (belowD (Below.refl _ _) 1))
      go_upto_region 15 with fail
      refine wp_region_held_drew (S := fun w' => SpAt w' w.heap.size s ∧ RuAt w' gR #[fv n, fv m, v] ∧ FAt w' gF Y) (by kernel_rfl) ⟨(unhide HA9).sp, unhide HRB9, unhide HF9⟩ (fun hS => ?_)
      clear HA9 HRB9 HF9 HPT9
      generalize W9.drew = Wd at HAd HRBd HFd HPTd hS ⊢
      refine wpAnyH_take (i := 0) (v := .agg (frA Y)) rfl (by kernel_rfl) (by kernel_rfl) (by kernel_rfl) (fun _ _ _ h => h) (yieldsIf_load_fr (by rfl) _ rfl gF rfl Y (unhide HOY) (fun _ h => h.2.2)) hS ?_
      refine wpAnyH_take (i := 1) (v := .pointer (some ⟨gR, 1, none⟩)) rfl (by kernel_rfl) (by kernel_rfl) (by kernel_rfl) (fun _ _ _ h => h) (Or.inl ⟨by rfl, fun W h => by go_simp⟩) hS ?_
      refine wpAnyH_take (i := 2) (v := fv m) rfl (by kernel_rfl) (by kernel_rfl) (by kernel_rfl) (fun _ _ _ h => h) (Or.inl ⟨by rfl, fun W h => by have hb : W.cell? ⟨gR, 1, none⟩ = some (fv m) := (RuAt.c h.2.1 1); go_simp⟩) hS ?_
      go_simp
      refine wpAnyH_take (i := 3) (v := .agg (spA s)) rfl (by kernel_rfl) (by kernel_rfl) (by kernel_rfl) (fun _ _ _ h => h) (yieldsIf_load_mid (by rfl) 51 _ rfl w.heap.size 0 rfl (spL s) _ (fun _ h => SpAt.all h.1) Tryz.underlying51 rfl (by rw [show (spL s).length = 33 from by have := spA_size hfr; simpa [spA] using this]; kernel_rfl)) hS ?_
      refine wpAnyH_take (i := 4) (v := .slice ga tn tn) rfl (by kernel_rfl) (by kernel_rfl) (by kernel_rfl) (fun _ _ _ h => h) (Or.inl ⟨by rfl, fun W h => by go_simp⟩) hS ?_
      refine wpAnyH_ready (rs := [5]) (by kernel_rfl) (by simp) ?_
      refine AllReadyH.cons rfl (fun K hK => ?_) AllReadyH.nil
      go_simp
      rw [(unhide HRU).entG]
      refine (unhide HGI Wd (unhide HAd).ok (unhide HPTd)).mono ?_
      rintro e Wa ⟨⟨va, vc, rfl, hPv⟩, hBa⟩
      have HAa := hide ((unhide HAd).below hBa)
      have HRBa := hide ((unhide HRBd).below hBa (unhide HRBd).lt)
      have HFa := hide ((unhide HFd).below hBa (unhide HFd).lt)
      have HPv := hide hPv
      refine hK.out _ _ ⟨(unhide HAa).sp, unhide HRBa, unhide HFa⟩ (fun hS2 => ?_)
      clear hK K hS hBa HAd HRBd HFd HPTd hPv
      refine wpAnyH_ready (rs := [6]) (by kernel_rfl) (by simp) ?_
      refine AllReadyH.cons rfl (fun K hK => ?_) AllReadyH.nil
      go_simp
      go_wp2_with (go_at_call 37; refine (unhide HPS Y Wa va vc (unhide HOY) (unhide HPv)).mono ?_; rintro e Wb ⟨rfl, hBb⟩)
      have HAb := hide ((unhide HAa).below hBb)
      have HRBb := hide ((unhide HRBa).below hBb (unhide HRBa).lt)
      have HFb := hide ((unhide HFa).below hBb (unhide HFa).lt)
      refine hK.out _ _ ⟨(unhide HAb).sp, unhide HRBb, unhide HFb⟩ (fun hS3 => ?_)
      clear hK K hS2 hBb HAa HRBa HFa HPv
      have HOR := hide (pushA_ok (gvD s (takenD s.f tn)) Y (unhide HOY) (unhide HGVB))
      have HR2 : Hid (applyS s = ((pushA Y (gvD s (takenD s.f tn))).1, (pushA Y (gvD s (takenD s.f tn))).2)) := hide (unhide HR)
      generalize (pushA Y (gvD s (takenD s.f tn))).1 = F at HOR HR2 ⊢
      generalize (pushA Y (gvD s (takenD s.f tn))).2 = er at HR2 ⊢
      refine wpAnyH_take (i := 7) (v := .agg (frA F)) rfl (by kernel_rfl) (by kernel_rfl) (by kernel_rfl) (fun _ _ _ h => h) (Or.inl ⟨by rfl, fun W h => by go_simp⟩) hS3 ?_
      refine wpAnyH_take (i := 8) (v := .int .i64 er) rfl (by kernel_rfl) (by kernel_rfl) (by kernel_rfl) (fun _ _ _ h => h) (Or.inl ⟨by rfl, fun W h => by go_simp⟩) hS3 ?_
      refine wpAnyH_ready (rs := [9]) (by kernel_rfl) (by simp) ?_
      refine AllReadyH.cons rfl (fun K hK => ?_) AllReadyH.nil
      rw [if_pos (by rfl)]
      refine wp_store_row 29 _ _ rfl (w.heap.size + 1) (frA F) rfl rfl 29 (frA frZ) (unhide HAb).rz (sizeFr (unhide HOR)) (sizeEq frZ_ok (unhide HOR)) (frA_one _) ?_
      refine hK.out _ _ ⟨(setRow_other _ _ _ _ (by omega)).trans (unhide HAb).sp, (setRow_other _ _ _ _ (by have := unhide HGR; omega)).trans (unhide HRBb), (setRow_other _ _ _ _ (by have := unhide HGF; omega)).trans (unhide HFb)⟩ (fun hS4 => ?_)
      clear hK K hS3
      refine wpAnyH_take (i := 10) (v := .int .i64 er) rfl (by kernel_rfl) (by kernel_rfl) (by kernel_rfl) (fun _ _ _ h => h) (Or.inl ⟨by rfl, fun W h => by go_simp⟩) hS4 ?_
      refine wpAnyH_done (by kernel_rfl) ?_ _
      go_wp2_with fail
      exact bodyPost_ret (v := frTwo (F, er)) (results_fr2 rfl _ _ (w.heap.size + 1) F er (unhide HOR) rfl rfl ((unhide HAb).rz.row _)) rfl (unhide HE _ _ (unhide HR2) (below_setRow' (unhide HAb).bel (by omega) _))
    · have t5 : (((s.op : Nat) : Int) == 5) = false := beq_f (by omega)
      have HR : Hid (applyS s = pushA X (gvD s (takenD s.f tn))) := hide (by
        refine (unhide HFINAL (by omega)).trans ?_
        congr 1
        unfold frS
        rw [if_neg h5, unhide HTN, unhide HX])
      clear h22 h5
      obtain ⟨Y, HY⟩ : ∃ Y, Hid (X = Y) := ⟨_, hide rfl⟩
      have HOY : Hid (FrOk Y) := hide (by rw [← unhide HY]; exact unhide HOKP)
      have HF9 : Hid (FAt W8 gF Y) := hide (by rw [← unhide HY]; exact unhide HF8)
      rw [unhide HY] at HR
      have HA9 := HA8
      have HRB9 := HRB8
      have HPT9 := HPT8
      have HAd : Hid (A1 w W8.drew s) := hide ((unhide HA9).below (belowD (Below.refl _ _) 1))
      have HRBd : Hid (RuAt W8.drew gR #[fv n, fv m, v]) := hide (unhide HRB9)
      have HFd : Hid (FAt W8.drew gF Y) := hide (unhide HF9)
      have HPTd : Hid (PAt W8.drew ga (takenD s.f tn)) := hide ((unhide HPT9).below (belowD (Below.refl _ _) 1))
      go_upto_region 15 with fail
      refine wp_region_held_drew (S := fun w' => SpAt w' w.heap.size s ∧ RuAt w' gR #[fv n, fv m, v] ∧ FAt w' gF Y) (by kernel_rfl) ⟨(unhide HA9).sp, unhide HRB9, unhide HF9⟩ (fun hS => ?_)
      clear HA9 HRB9 HF9 HPT9
      generalize W8.drew = Wd at HAd HRBd HFd HPTd hS ⊢
      refine wpAnyH_take (i := 0) (v := .agg (frA Y)) rfl (by kernel_rfl) (by kernel_rfl) (by kernel_rfl) (fun _ _ _ h => h) (yieldsIf_load_fr (by rfl) _ rfl gF rfl Y (unhide HOY) (fun _ h => h.2.2)) hS ?_
      refine wpAnyH_take (i := 1) (v := .pointer (some ⟨gR, 1, none⟩)) rfl (by kernel_rfl) (by kernel_rfl) (by kernel_rfl) (fun _ _ _ h => h) (Or.inl ⟨by rfl, fun W h => by go_simp⟩) hS ?_
      refine wpAnyH_take (i := 2) (v := fv m) rfl (by kernel_rfl) (by kernel_rfl) (by kernel_rfl) (fun _ _ _ h => h) (Or.inl ⟨by rfl, fun W h => by have hb : W.cell? ⟨gR, 1, none⟩ = some (fv m) := (RuAt.c h.2.1 1); go_simp⟩) hS ?_
      go_simp
      refine wpAnyH_take (i := 3) (v := .agg (spA s)) rfl (by kernel_rfl) (by kernel_rfl) (by kernel_rfl) (fun _ _ _ h => h) (yieldsIf_load_mid (by rfl) 51 _ rfl w.heap.size 0 rfl (spL s) _ (fun _ h => SpAt.all h.1) Tryz.underlying51 rfl (by rw [show (spL s).length = 33 from by have := spA_size hfr; simpa [spA] using this]; kernel_rfl)) hS ?_
      refine wpAnyH_take (i := 4) (v := .slice ga tn tn) rfl (by kernel_rfl) (by kernel_rfl) (by kernel_rfl) (fun _ _ _ h => h) (Or.inl ⟨by rfl, fun W h => by go_simp⟩) hS ?_
      refine wpAnyH_ready (rs := [5]) (by kernel_rfl) (by simp) ?_
      refine AllReadyH.cons rfl (fun K hK => ?_) AllReadyH.nil
      go_simp
      rw [(unhide HRU).entG]
      refine (unhide HGI Wd (unhide HAd).ok (unhide HPTd)).mono ?_
      rintro e Wa ⟨⟨va, vc, rfl, hPv⟩, hBa⟩
      have HAa := hide ((unhide HAd).below hBa)
      have HRBa := hide ((unhide HRBd).below hBa (unhide HRBd).lt)
      have HFa := hide ((unhide HFd).below hBa (unhide HFd).lt)
      have HPv := hide hPv
      refine hK.out _ _ ⟨(unhide HAa).sp, unhide HRBa, unhide HFa⟩ (fun hS2 => ?_)
      clear hK K hS hBa HAd HRBd HFd HPTd hPv
      refine wpAnyH_ready (rs := [6]) (by kernel_rfl) (by simp) ?_
      refine AllReadyH.cons rfl (fun K hK => ?_) AllReadyH.nil
      go_simp
      go_wp2_with (go_at_call 37; refine (unhide HPS Y Wa va vc (unhide HOY) (unhide HPv)).mono ?_; rintro e Wb ⟨rfl, hBb⟩)
      have HAb := hide ((unhide HAa).below hBb)
      have HRBb := hide ((unhide HRBa).below hBb (unhide HRBa).lt)
      have HFb := hide ((unhide HFa).below hBb (unhide HFa).lt)
      refine hK.out _ _ ⟨(unhide HAb).sp, unhide HRBb, unhide HFb⟩ (fun hS3 => ?_)
      clear hK K hS2 hBb HAa HRBa HFa HPv
      have HOR := hide (pushA_ok (gvD s (takenD s.f tn)) Y (unhide HOY) (unhide HGVB))
      have HR2 : Hid (applyS s = ((pushA Y (gvD s (takenD s.f tn))).1, (pushA Y (gvD s (takenD s.f tn))).2)) := hide (unhide HR)
      generalize (pushA Y (gvD s (takenD s.f tn))).1 = F at HOR HR2 ⊢
      generalize (pushA Y (gvD s (takenD s.f tn))).2 = er at HR2 ⊢
      refine wpAnyH_take (i := 7) (v := .agg (frA F)) rfl (by kernel_rfl) (by kernel_rfl) (by kernel_rfl) (fun _ _ _ h => h) (Or.inl ⟨by rfl, fun W h => by go_simp⟩) hS3 ?_
      refine wpAnyH_take (i := 8) (v := .int .i64 er) rfl (by kernel_rfl) (by kernel_rfl) (by kernel_rfl) (fun _ _ _ h => h) (Or.inl ⟨by rfl, fun W h => by go_simp⟩) hS3 ?_
      refine wpAnyH_ready (rs := [9]) (by kernel_rfl) (by simp) ?_
      refine AllReadyH.cons rfl (fun K hK => ?_) AllReadyH.nil
      rw [if_pos (by rfl)]
      refine wp_store_row 29 _ _ rfl (w.heap.size + 1) (frA F) rfl rfl 29 (frA frZ) (unhide HAb).rz (sizeFr (unhide HOR)) (sizeEq frZ_ok (unhide HOR)) (frA_one _) ?_
      refine hK.out _ _ ⟨(setRow_other _ _ _ _ (by omega)).trans (unhide HAb).sp, (setRow_other _ _ _ _ (by have := unhide HGR; omega)).trans (unhide HRBb), (setRow_other _ _ _ _ (by have := unhide HGF; omega)).trans (unhide HFb)⟩ (fun hS4 => ?_)
      clear hK K hS3
      refine wpAnyH_take (i := 10) (v := .int .i64 er) rfl (by kernel_rfl) (by kernel_rfl) (by kernel_rfl) (fun _ _ _ h => h) (Or.inl ⟨by rfl, fun W h => by go_simp⟩) hS4 ?_
      refine wpAnyH_done (by kernel_rfl) ?_ _
      go_wp2_with fail
      exact bodyPost_ret (v := frTwo (F, er)) (results_fr2 rfl _ _ (w.heap.size + 1) F er (unhide HOR) rfl rfl ((unhide HAb).rz.row _)) rfl (unhide HE _ _ (unhide HR2) (below_setRow' (unhide HAb).bel (by omega) _))
  · have HCL : Hid (∀ W, SpOk W s → PAt W ga (takenD s.f tn) → Calls Tryz.prog k #[.agg (spA s), .slice ga tn tn] W fun e w' => e = .returned (.bool (alD s (takenD s.f tn))) ∧ Below W.heap.size W w') := hide (fun W h1 h2 => by
      have := hcl W ga tn h1 h2
      rw [unhide HTKL] at this
      exact this)
    have HENT := hide hent
    rw [hv] at c2
    have HV := hide hv
    have hq := neq_fv W8 k
    clear hv hent hcl
    go_wp2_with (refine wpList_load_rowG (by kernel_rfl) 51 (.tmp 1) rfl w.heap.size rfl 51 (spA s) (0, 0) _ (unhide HA8).sp Tryz.underlying51 rfl (sizeSp hfr) ?_)
    rw [unhide HENT]
    refine (unhide HCL W8 (unhide HA8).ok (unhide HPT8)).mono ?_
    rintro e W9 ⟨rfl, hB9⟩
    have HA9 := hide ((unhide HA8).below hB9)
    have HRB9 := hide ((unhide HRB8).below hB9 (unhide HRB8).lt)
    have HF9 := hide ((unhide HF8).below hB9 (unhide HF8).lt)
    have HPT9 := hide ((unhide HPT8).below hB9)
    clear hB9 HA8 HRB8 HF8 HPT8 c2 HCL hq W8
    have HA8 := HA9
    have HRB8 := HRB9
    have HF8 := HF9
    have HPT8 := HPT9
    clear HA9 HRB9 HF9 HPT9
    cases hal : alD s (takenD s.f tn)
    · have HR : Hid (applyS s = (frZ, 70)) := hide (by unfold applyS; rw [if_neg (by rw [unhide HM]; simp), unhide HTN, if_neg (by omega), hal, Bool.and_false, if_pos rfl])
      clear hal
      go_upto_region 10 with fail
      go_wp2_with (refine wpList_store_row rfl 29 (.tmp 2) (.tmp 56) rfl (w.heap.size + 1) (frA frZ) rfl rfl 29 (frA frZ) (unhide HA8).rz (sizeFr frZ_ok) rfl (frA_one _) ?_)
      exact bodyPost_ret (v := frTwo (frZ, 70)) (results_fr2 rfl _ _ (w.heap.size + 1) frZ 70 frZ_ok rfl rfl ((unhide HA8).rz.row _)) rfl (unhide HE _ _ (unhide HR) (below_setRow' (unhide HA8).bel (by omega) _))
    have HOKB : Hid ((allO s.T (takenD s.f tn) (tkD s) && alD s (takenD s.f tn)) = true) := hide (by rw [unhide HALC, hal]; rfl)
    have HFINAL := hide (unhide HFINAL hal)
    clear hal
    have ko : W9.cell? ⟨w.heap.size, 30, none⟩ = some (.int .u8 (s.op : Int)) := (unhide HA8).sp.cop hfr
    have kx : W9.cell? ⟨gF, 1, none⟩ = some (.int .i64 X.he) := (unhide HF8).he
    by_cases h22 : s.op = 22
    · have t22 : (((s.op : Nat) : Int) == 22) = true := beq_t (by omega)
      have t5 : (((s.op : Nat) : Int) == 5) = false := beq_f (by omega)
      by_cases hx0 : X.he > 0
      · have HR : Hid (applyS s = (frZ, 73)) := hide (by unfold applyS; rw [if_neg (by rw [unhide HM]; simp), unhide HTN, if_neg (by omega), unhide HOKB, if_neg (by decide), unhide HX, if_pos ⟨h22, hx0⟩])
        clear h22
        go_upto_region 12 with fail
        go_wp2_with (refine wpList_store_row rfl 29 (.tmp 2) (.tmp 66) rfl (w.heap.size + 1) (frA frZ) rfl rfl 29 (frA frZ) (unhide HA8).rz (sizeFr frZ_ok) rfl (frA_one _) ?_)
        exact bodyPost_ret (v := frTwo (frZ, 73)) (results_fr2 rfl _ _ (w.heap.size + 1) frZ 73 frZ_ok rfl rfl ((unhide HA8).rz.row _)) rfl (unhide HE _ _ (unhide HR) (below_setRow' (unhide HA8).bel (by omega) _))
      · have HR : Hid (applyS s = pushA X (gvD s (takenD s.f tn))) := hide (by
          refine (unhide HFINAL (by omega)).trans ?_
          congr 1
          unfold frS
          rw [if_neg (by omega), unhide HTN, unhide HX])
        clear h22
        obtain ⟨Y, HY⟩ : ∃ Y, Hid (X = Y) := ⟨_, hide rfl⟩
        have HOY : Hid (FrOk Y) := hide (by rw [← unhide HY]; exact unhide HOKP)
        have HF9 : Hid (FAt W9 gF Y) := hide (by rw [← unhide HY]; exact unhide HF8)
        rw [unhide HY] at HR
        have HA9 := HA8
        have HRB9 := HRB8
        have HPT9 := HPT8
        have HAd : Hid (A1 w W9.drew s) := hide ((unhide HA9).below (belowD (Below.refl _ _) 1))
        have HRBd : Hid (RuAt W9.drew gR #[fv n, fv m, v]) := hide (unhide HRB9)
        have HFd : Hid (FAt W9.drew gF Y) := hide (unhide HF9)
        have HPTd : Hid (PAt W9.drew ga (takenD s.f tn)) := hide ((unhide HPT9).below (belowD (Below.refl _ _) 1))
        go_upto_region 15 with fail
        refine wp_region_held_drew (S := fun w' => SpAt w' w.heap.size s ∧ RuAt w' gR #[fv n, fv m, v] ∧ FAt w' gF Y) (by kernel_rfl) ⟨(unhide HA9).sp, unhide HRB9, unhide HF9⟩ (fun hS => ?_)
        clear HA9 HRB9 HF9 HPT9
        generalize W9.drew = Wd at HAd HRBd HFd HPTd hS ⊢
        refine wpAnyH_take (i := 0) (v := .agg (frA Y)) rfl (by kernel_rfl) (by kernel_rfl) (by kernel_rfl) (fun _ _ _ h => h) (yieldsIf_load_fr (by rfl) _ rfl gF rfl Y (unhide HOY) (fun _ h => h.2.2)) hS ?_
        refine wpAnyH_take (i := 1) (v := .pointer (some ⟨gR, 1, none⟩)) rfl (by kernel_rfl) (by kernel_rfl) (by kernel_rfl) (fun _ _ _ h => h) (Or.inl ⟨by rfl, fun W h => by go_simp⟩) hS ?_
        refine wpAnyH_take (i := 2) (v := fv m) rfl (by kernel_rfl) (by kernel_rfl) (by kernel_rfl) (fun _ _ _ h => h) (Or.inl ⟨by rfl, fun W h => by have hb : W.cell? ⟨gR, 1, none⟩ = some (fv m) := (RuAt.c h.2.1 1); go_simp⟩) hS ?_
        go_simp
        refine wpAnyH_take (i := 3) (v := .agg (spA s)) rfl (by kernel_rfl) (by kernel_rfl) (by kernel_rfl) (fun _ _ _ h => h) (yieldsIf_load_mid (by rfl) 51 _ rfl w.heap.size 0 rfl (spL s) _ (fun _ h => SpAt.all h.1) Tryz.underlying51 rfl (by rw [show (spL s).length = 33 from by have := spA_size hfr; simpa [spA] using this]; kernel_rfl)) hS ?_
        refine wpAnyH_take (i := 4) (v := .slice ga tn tn) rfl (by kernel_rfl) (by kernel_rfl) (by kernel_rfl) (fun _ _ _ h => h) (Or.inl ⟨by rfl, fun W h => by go_simp⟩) hS ?_
        refine wpAnyH_ready (rs := [5]) (by kernel_rfl) (by simp) ?_
        refine AllReadyH.cons rfl (fun K hK => ?_) AllReadyH.nil
        go_simp
        rw [(unhide HRU).entG]
        refine (unhide HGI Wd (unhide HAd).ok (unhide HPTd)).mono ?_
        rintro e Wa ⟨⟨va, vc, rfl, hPv⟩, hBa⟩
        have HAa := hide ((unhide HAd).below hBa)
        have HRBa := hide ((unhide HRBd).below hBa (unhide HRBd).lt)
        have HFa := hide ((unhide HFd).below hBa (unhide HFd).lt)
        have HPv := hide hPv
        refine hK.out _ _ ⟨(unhide HAa).sp, unhide HRBa, unhide HFa⟩ (fun hS2 => ?_)
        clear hK K hS hBa HAd HRBd HFd HPTd hPv
        refine wpAnyH_ready (rs := [6]) (by kernel_rfl) (by simp) ?_
        refine AllReadyH.cons rfl (fun K hK => ?_) AllReadyH.nil
        go_simp
        go_wp2_with (go_at_call 37; refine (unhide HPS Y Wa va vc (unhide HOY) (unhide HPv)).mono ?_; rintro e Wb ⟨rfl, hBb⟩)
        have HAb := hide ((unhide HAa).below hBb)
        have HRBb := hide ((unhide HRBa).below hBb (unhide HRBa).lt)
        have HFb := hide ((unhide HFa).below hBb (unhide HFa).lt)
        refine hK.out _ _ ⟨(unhide HAb).sp, unhide HRBb, unhide HFb⟩ (fun hS3 => ?_)
        clear hK K hS2 hBb HAa HRBa HFa HPv
        have HOR := hide (pushA_ok (gvD s (takenD s.f tn)) Y (unhide HOY) (unhide HGVB))
        have HR2 : Hid (applyS s = ((pushA Y (gvD s (takenD s.f tn))).1, (pushA Y (gvD s (takenD s.f tn))).2)) := hide (unhide HR)
        generalize (pushA Y (gvD s (takenD s.f tn))).1 = F at HOR HR2 ⊢
        generalize (pushA Y (gvD s (takenD s.f tn))).2 = er at HR2 ⊢
        refine wpAnyH_take (i := 7) (v := .agg (frA F)) rfl (by kernel_rfl) (by kernel_rfl) (by kernel_rfl) (fun _ _ _ h => h) (Or.inl ⟨by rfl, fun W h => by go_simp⟩) hS3 ?_
        refine wpAnyH_take (i := 8) (v := .int .i64 er) rfl (by kernel_rfl) (by kernel_rfl) (by kernel_rfl) (fun _ _ _ h => h) (Or.inl ⟨by rfl, fun W h => by go_simp⟩) hS3 ?_
        refine wpAnyH_ready (rs := [9]) (by kernel_rfl) (by simp) ?_
        refine AllReadyH.cons rfl (fun K hK => ?_) AllReadyH.nil
        rw [if_pos (by rfl)]
        refine wp_store_row 29 _ _ rfl (w.heap.size + 1) (frA F) rfl rfl 29 (frA frZ) (unhide HAb).rz (sizeFr (unhide HOR)) (sizeEq frZ_ok (unhide HOR)) (frA_one _) ?_
        refine hK.out _ _ ⟨(setRow_other _ _ _ _ (by omega)).trans (unhide HAb).sp, (setRow_other _ _ _ _ (by have := unhide HGR; omega)).trans (unhide HRBb), (setRow_other _ _ _ _ (by have := unhide HGF; omega)).trans (unhide HFb)⟩ (fun hS4 => ?_)
        clear hK K hS3
        refine wpAnyH_take (i := 10) (v := .int .i64 er) rfl (by kernel_rfl) (by kernel_rfl) (by kernel_rfl) (fun _ _ _ h => h) (Or.inl ⟨by rfl, fun W h => by go_simp⟩) hS4 ?_
        refine wpAnyH_done (by kernel_rfl) ?_ _
        go_wp2_with fail
        exact bodyPost_ret (v := frTwo (F, er)) (results_fr2 rfl _ _ (w.heap.size + 1) F er (unhide HOR) rfl rfl ((unhide HAb).rz.row _)) rfl (unhide HE _ _ (unhide HR2) (below_setRow' (unhide HAb).bel (by omega) _))
    have t22 : (((s.op : Nat) : Int) == 22) = false := beq_f (by omega)
    by_cases h5 : s.op = 5
    · have t5 : (((s.op : Nat) : Int) == 5) = true := beq_t (by omega)
      have HIA : Hid (0 ≤ s.a ∧ s.a < (popK s.f tn).lo) := hide (by
        have hm := unhide HM
        unfold missD at hm
        rw [if_pos (Or.inr h5)] at hm
        exact ⟨(load_good hm).2.1, (load_good hm).2.2⟩)
      have htn1 : 0 < tn := by
          have h1 : (tkD s).length = 1 := by unfold tkD; rw [h5]; rfl
          have h2 := unhide HTN
          omega
      have HAd : Hid (A1 w W9.drew s) := hide ((unhide HA8).below (belowD (Below.refl _ _) 1))
      have HRBd : Hid (RuAt W9.drew gR #[fv n, fv m, v]) := hide (unhide HRB8)
      have HFd : Hid (FAt W9.drew gF X) := hide (unhide HF8)
      have HPTd : Hid (PAt W9.drew ga (takenD s.f tn)) := hide ((unhide HPT8).below (belowD (Below.refl _ _) 1))
      obtain ⟨t0, hx⟩ : ∃ t0, (takenD s.f tn)[0]? = some t0 := ⟨_, List.getElem?_eq_getElem (show 0 < (takenD s.f tn).length by rw [taken_len (unhide HFI) (unhide HLE)]; omega)⟩
      obtain ⟨b, off, ep, hct⟩ := unhide HPT8 0 _ hx
      have HT0 : Hid ((takenD s.f tn).getD 0 0 = t0) := hide (by rw [List.getD_eq_getElem?_getD, hx]; rfl)
      have HTB0 : Hid (t0 < 256 ∧ validD s.T.length t0 = true) := hide ⟨(taken_valid (unhide HFI) (unhide HLE) hx).2, (taken_valid (unhide HFI) (unhide HLE) hx).1⟩
      rw [Nat.add_zero] at hct
      have HBG : Hid (b < gF) := hide (unhide HPB b off ep (by omega))
      rw [ep]
      have HEP := hide ep
      have ka : W9.cell? ⟨w.heap.size, 31, none⟩ = some (.int .i64 s.a) := (unhide HA8).sp.ca hfr
      have n0 : ¬ tn = 0 := by omega
      have j0 : (0 : Int) < ((tn : Nat) : Int) := by omega
      clear hx ep
      go_upto_region 14 with fail
      refine wp_region_held_drew (S := fun w' => w'.cell? ⟨w.heap.size, 31, none⟩ = some (.int .i64 s.a) ∧ w'.cell? ⟨b, off, none⟩ = some (.int .u8 (t0 : Int))) (by kernel_rfl) ⟨ka, hct⟩ (fun hS => ?_)
      clear HA8 HRB8 HF8 HPT8 ka
      have hlb := World.block_lt_of_cell? W9 _ hct
      have HLB : Hid (b < W9.drew.heap.size) := hide hlb
      clear hct hlb
      generalize W9.drew = Wd at HAd HRBd HFd HPTd hS HLB ⊢
      refine wpAnyH_take (i := 1) (v := .pointer (some ⟨w.heap.size, 29, none⟩)) rfl (by kernel_rfl) (by kernel_rfl) (by kernel_rfl) (fun _ _ _ h => h) (Or.inl ⟨by rfl, fun W h => by obtain ⟨h0, h1⟩ := h; go_simp⟩) hS ?_
      refine wpAnyH_take (i := 2) (v := .pointer (some ⟨w.heap.size, 31, none⟩)) rfl (by kernel_rfl) (by kernel_rfl) (by kernel_rfl) (fun _ _ _ h => h) (Or.inl ⟨by rfl, fun W h => by obtain ⟨h0, h1⟩ := h; go_simp⟩) hS ?_
      refine wpAnyH_take (i := 3) (v := .int .i64 s.a) rfl (by kernel_rfl) (by kernel_rfl) (by kernel_rfl) (fun _ _ _ h => h) (Or.inl ⟨by rfl, fun W h => by obtain ⟨h0, h1⟩ := h; go_simp⟩) hS ?_
      go_simp
      refine wpAnyH_take (i := 4) (v := .slice (some ⟨b, off, none⟩) tn tn) rfl (by kernel_rfl) (by kernel_rfl) (by kernel_rfl) (fun _ _ _ h => h) (Or.inl ⟨by rfl, fun W h => by obtain ⟨h0, h1⟩ := h; go_simp⟩) hS ?_
      refine wpAnyH_take (i := 5) (v := .pointer (some ⟨b, off, none⟩)) rfl (by kernel_rfl) (by kernel_rfl) (by kernel_rfl) (fun _ _ _ h => h) (Or.inl ⟨by rfl, fun W h => by obtain ⟨h0, h1⟩ := h; go_simp⟩) hS ?_
      refine wpAnyH_take (i := 6) (v := .int .u8 (t0 : Int)) rfl (by kernel_rfl) (by kernel_rfl) (by kernel_rfl) (fun _ _ _ h => h) (Or.inl ⟨by rfl, fun W h => by obtain ⟨h0, h1⟩ := h; go_simp⟩) hS ?_
      go_simp
      refine wpAnyH_ready (rs := [0]) (by kernel_rfl) (by simp) ?_
      refine AllReadyH.cons rfl (fun K hK => ?_) AllReadyH.nil
      rw [if_pos (by rfl)]
      refine wp_load_mid 29 _ rfl gF 0 rfl (frL X) _ (unhide HFd).range Tryz.underlying29 rfl (sizeFrL (unhide HOKP)) ?_
      refine hK.out _ _ hS (fun hS2 => ?_)
      clear hK K hS
      refine wpAnyH_ready (rs := [7]) (by kernel_rfl) (by simp) ?_
      refine AllReadyH.cons rfl (fun K hK => ?_) AllReadyH.nil
      go_simp
      go_wp2_with (go_at_call 36; refine (Store_any X s.a t0 Wd (unhide HOKP) (unhide HAd).ok.a (unhide HTB0).1).mono ?_; rintro e We ⟨rfl, hBe⟩)
      have HAe := hide ((unhide HAd).below hBe)
      have HRBe := hide ((unhide HRBd).below hBe (unhide HRBd).lt)
      have HFe := hide ((unhide HFd).below hBe (unhide HFd).lt)
      have HPTe := hide ((unhide HPTd).below hBe)
      refine hK.out _ _ ⟨(unhide HAe).sp.ca hfr, (hBe.cell (p := ⟨b, off, none⟩) (unhide HLB)).trans hS2.2⟩ (fun hS3 => ?_)
      clear hK K hS2 hBe HAd HRBd HFd HPTd HLB
      obtain ⟨Y, HY⟩ : ∃ Y, Hid ((storeD X s.a t0).1 = Y) := ⟨_, hide rfl⟩
      have HTS : Hid (frTwo (storeD X s.a t0) = .tuple #[.agg (frA Y), .int .i64 (storeD X s.a t0).2]) := hide (by rw [← unhide HY]; rfl)
      rw [unhide HTS]
      clear HTS
      have HOY : Hid (FrOk Y) := hide (by rw [← unhide HY, ← unhide HX]; exact (store_is (popK_is (unhide HFI) (unhide HLE)) (unhide HIA) (unhide HTB0).2 (unhide HTB0).1).ok)
      refine wpAnyH_take (i := 8) (v := .tuple #[.agg (frA Y), .int .i64 (storeD X s.a t0).2]) rfl (by kernel_rfl) (by kernel_rfl) (by kernel_rfl) (fun _ _ _ h => h) (Or.inl ⟨by rfl, fun W h => by go_simp⟩) hS3 ?_
      refine wpAnyH_take (i := 9) (v := .agg (frA Y)) rfl (by kernel_rfl) (by kernel_rfl) (by kernel_rfl) (fun _ _ _ h => h) (Or.inl ⟨by rfl, fun W h => by go_simp⟩) hS3 ?_
      refine wpAnyH_take (i := 10) (v := .int .i64 (storeD X s.a t0).2) rfl (by kernel_rfl) (by kernel_rfl) (by kernel_rfl) (fun _ _ _ h => h) (Or.inl ⟨by rfl, fun W h => by go_simp⟩) hS3 ?_
      go_simp
      refine wpAnyH_ready (rs := [11]) (by kernel_rfl) (by simp) ?_
      refine AllReadyH.cons rfl (fun K hK => ?_) AllReadyH.nil
      rw [if_pos (by rfl)]
      refine wp_store_row 29 _ _ rfl gF (frA Y) rfl rfl 29 (frA X) (unhide HFe) (sizeFr (unhide HOY)) (sizeEq (unhide HOKP) (unhide HOY)) (frA_one _) ?_
      refine hK.out _ _ ⟨(cell_setRow_other We gF (frA Y) ⟨w.heap.size, 31, none⟩ (by have := unhide HGF; show w.heap.size ≠ gF; omega)).trans hS3.1, (cell_setRow_other We gF (frA Y) ⟨b, off, none⟩ (by have := unhide HBG; show b ≠ gF; omega)).trans hS3.2⟩ (fun hS4 => ?_)
      clear hK K hS3 hS4
      have hBs : Below gF We (We.setRow gF (frA Y)) := below_setRow' (Below.refl _ _) (Nat.le_refl _) _
      have HRB9 : Hid (RuAt (We.setRow gF (frA Y)) gR #[fv n, fv m, v]) := hide ((unhide HRBe).below hBs (unhide HGF).2)
      have HF9 := hide ((unhide HFe).row Y)
      have HPT9 : Hid (PAt (We.setRow gF (frA Y)) ga (takenD s.f tn)) := hide ((unhide HPTe).row _ (fun b' o' e' => by rw [unhide HEP] at e'; injection e' with e'; injection e' with e1 e2; have := unhide HBG; omega))
      have HA9 : Hid (A1 w (We.setRow gF (frA Y)) s) := hide (unhide HSET We Y (unhide HAe))
      have HR : Hid (applyS s = pushA Y (gvD s (takenD s.f tn))) := hide (by
        refine (unhide HFINAL (by omega)).trans ?_
        congr 1
        unfold frS
        rw [if_pos h5, unhide HTN, unhide HX, unhide HT0]
        exact unhide HY)
      rw [← unhide HEP]
      clear hBs HRBe HFe HPTe HAe
      generalize We.setRow gF (frA Y) = W9 at HRB9 HF9 HPT9 HA9 ⊢
      refine wpAnyH_done (by kernel_rfl) ?_ _
      have HAd : Hid (A1 w W9.drew s) := hide ((unhide HA9).below (belowD (Below.refl _ _) 1))
      have HRBd : Hid (RuAt W9.drew gR #[fv n, fv m, v]) := hide (unhide HRB9)
      have HFd : Hid (FAt W9.drew gF Y) := hide (unhide HF9)
      have HPTd : Hid (PAt W9.drew ga (takenD s.f tn)) := hide ((unhide HPT9).below (belowD (Below.refl _ _) 1))
      go_upto_region 15 with fail
      refine wp_region_held_drew (S := fun w' => SpAt w' w.heap.size s ∧ RuAt w' gR #[fv n, fv m, v] ∧ FAt w' gF Y) (by kernel_rfl) ⟨(unhide HA9).sp, unhide HRB9, unhide HF9⟩ (fun hS => ?_)
      clear HA9 HRB9 HF9 HPT9
      generalize W9.drew = Wd at HAd HRBd HFd HPTd hS ⊢
      refine wpAnyH_take (i := 0) (v := .agg (frA Y)) rfl (by kernel_rfl) (by kernel_rfl) (by kernel_rfl) (fun _ _ _ h => h) (yieldsIf_load_fr (by rfl) _ rfl gF rfl Y (unhide HOY) (fun _ h => h.2.2)) hS ?_
      refine wpAnyH_take (i := 1) (v := .pointer (some ⟨gR, 1, none⟩)) rfl (by kernel_rfl) (by kernel_rfl) (by kernel_rfl) (fun _ _ _ h => h) (Or.inl ⟨by rfl, fun W h => by go_simp⟩) hS ?_
      refine wpAnyH_take (i := 2) (v := fv m) rfl (by kernel_rfl) (by kernel_rfl) (by kernel_rfl) (fun _ _ _ h => h) (Or.inl ⟨by rfl, fun W h => by have hb : W.cell? ⟨gR, 1, none⟩ = some (fv m) := (RuAt.c h.2.1 1); go_simp⟩) hS ?_
      go_simp
      refine wpAnyH_take (i := 3) (v := .agg (spA s)) rfl (by kernel_rfl) (by kernel_rfl) (by kernel_rfl) (fun _ _ _ h => h) (yieldsIf_load_mid (by rfl) 51 _ rfl w.heap.size 0 rfl (spL s) _ (fun _ h => SpAt.all h.1) Tryz.underlying51 rfl (by rw [show (spL s).length = 33 from by have := spA_size hfr; simpa [spA] using this]; kernel_rfl)) hS ?_
      refine wpAnyH_take (i := 4) (v := .slice ga tn tn) rfl (by kernel_rfl) (by kernel_rfl) (by kernel_rfl) (fun _ _ _ h => h) (Or.inl ⟨by rfl, fun W h => by go_simp⟩) hS ?_
      refine wpAnyH_ready (rs := [5]) (by kernel_rfl) (by simp) ?_
      refine AllReadyH.cons rfl (fun K hK => ?_) AllReadyH.nil
      go_simp
      rw [(unhide HRU).entG]
      refine (unhide HGI Wd (unhide HAd).ok (unhide HPTd)).mono ?_
      rintro e Wa ⟨⟨va, vc, rfl, hPv⟩, hBa⟩
      have HAa := hide ((unhide HAd).below hBa)
      have HRBa := hide ((unhide HRBd).below hBa (unhide HRBd).lt)
      have HFa := hide ((unhide HFd).below hBa (unhide HFd).lt)
      have HPv := hide hPv
      refine hK.out _ _ ⟨(unhide HAa).sp, unhide HRBa, unhide HFa⟩ (fun hS2 => ?_)
      clear hK K hS hBa HAd HRBd HFd HPTd hPv
      refine wpAnyH_ready (rs := [6]) (by kernel_rfl) (by simp) ?_
      refine AllReadyH.cons rfl (fun K hK => ?_) AllReadyH.nil
      go_simp
      go_wp2_with (go_at_call 37; refine (unhide HPS Y Wa va vc (unhide HOY) (unhide HPv)).mono ?_; rintro e Wb ⟨rfl, hBb⟩)
      have HAb := hide ((unhide HAa).below hBb)
      have HRBb := hide ((unhide HRBa).below hBb (unhide HRBa).lt)
      have HFb := hide ((unhide HFa).below hBb (unhide HFa).lt)
      refine hK.out _ _ ⟨(unhide HAb).sp, unhide HRBb, unhide HFb⟩ (fun hS3 => ?_)
      clear hK K hS2 hBb HAa HRBa HFa HPv
      have HOR := hide (pushA_ok (gvD s (takenD s.f tn)) Y (unhide HOY) (unhide HGVB))
      have HR2 : Hid (applyS s = ((pushA Y (gvD s (takenD s.f tn))).1, (pushA Y (gvD s (takenD s.f tn))).2)) := hide (unhide HR)
      generalize (pushA Y (gvD s (takenD s.f tn))).1 = F at HOR HR2 ⊢
      generalize (pushA Y (gvD s (takenD s.f tn))).2 = er at HR2 ⊢
      refine wpAnyH_take (i := 7) (v := .agg (frA F)) rfl (by kernel_rfl) (by kernel_rfl) (by kernel_rfl) (fun _ _ _ h => h) (Or.inl ⟨by rfl, fun W h => by go_simp⟩) hS3 ?_
      refine wpAnyH_take (i := 8) (v := .int .i64 er) rfl (by kernel_rfl) (by kernel_rfl) (by kernel_rfl) (fun _ _ _ h => h) (Or.inl ⟨by rfl, fun W h => by go_simp⟩) hS3 ?_
      refine wpAnyH_ready (rs := [9]) (by kernel_rfl) (by simp) ?_
      refine AllReadyH.cons rfl (fun K hK => ?_) AllReadyH.nil
      rw [if_pos (by rfl)]
      refine wp_store_row 29 _ _ rfl (w.heap.size + 1) (frA F) rfl rfl 29 (frA frZ) (unhide HAb).rz (sizeFr (unhide HOR)) (sizeEq frZ_ok (unhide HOR)) (frA_one _) ?_
      refine hK.out _ _ ⟨(setRow_other _ _ _ _ (by omega)).trans (unhide HAb).sp, (setRow_other _ _ _ _ (by have := unhide HGR; omega)).trans (unhide HRBb), (setRow_other _ _ _ _ (by have := unhide HGF; omega)).trans (unhide HFb)⟩ (fun hS4 => ?_)
      clear hK K hS3
      refine wpAnyH_take (i := 10) (v := .int .i64 er) rfl (by kernel_rfl) (by kernel_rfl) (by kernel_rfl) (fun _ _ _ h => h) (Or.inl ⟨by rfl, fun W h => by go_simp⟩) hS4 ?_
      refine wpAnyH_done (by kernel_rfl) ?_ _
      go_wp2_with fail
      exact bodyPost_ret (v := frTwo (F, er)) (results_fr2 rfl _ _ (w.heap.size + 1) F er (unhide HOR) rfl rfl ((unhide HAb).rz.row _)) rfl (unhide HE _ _ (unhide HR2) (below_setRow' (unhide HAb).bel (by omega) _))
    · have t5 : (((s.op : Nat) : Int) == 5) = false := beq_f (by omega)
      have HR : Hid (applyS s = pushA X (gvD s (takenD s.f tn))) := hide (by
        refine (unhide HFINAL (by omega)).trans ?_
        congr 1
        unfold frS
        rw [if_neg h5, unhide HTN, unhide HX])
      clear h22 h5
      obtain ⟨Y, HY⟩ : ∃ Y, Hid (X = Y) := ⟨_, hide rfl⟩
      have HOY : Hid (FrOk Y) := hide (by rw [← unhide HY]; exact unhide HOKP)
      have HF9 : Hid (FAt W9 gF Y) := hide (by rw [← unhide HY]; exact unhide HF8)
      rw [unhide HY] at HR
      have HA9 := HA8
      have HRB9 := HRB8
      have HPT9 := HPT8
      have HAd : Hid (A1 w W9.drew s) := hide ((unhide HA9).below (belowD (Below.refl _ _) 1))
      have HRBd : Hid (RuAt W9.drew gR #[fv n, fv m, v]) := hide (unhide HRB9)
      have HFd : Hid (FAt W9.drew gF Y) := hide (unhide HF9)
      have HPTd : Hid (PAt W9.drew ga (takenD s.f tn)) := hide ((unhide HPT9).below (belowD (Below.refl _ _) 1))
      go_upto_region 15 with fail
      refine wp_region_held_drew (S := fun w' => SpAt w' w.heap.size s ∧ RuAt w' gR #[fv n, fv m, v] ∧ FAt w' gF Y) (by kernel_rfl) ⟨(unhide HA9).sp, unhide HRB9, unhide HF9⟩ (fun hS => ?_)
      clear HA9 HRB9 HF9 HPT9
      generalize W9.drew = Wd at HAd HRBd HFd HPTd hS ⊢
      refine wpAnyH_take (i := 0) (v := .agg (frA Y)) rfl (by kernel_rfl) (by kernel_rfl) (by kernel_rfl) (fun _ _ _ h => h) (yieldsIf_load_fr (by rfl) _ rfl gF rfl Y (unhide HOY) (fun _ h => h.2.2)) hS ?_
      refine wpAnyH_take (i := 1) (v := .pointer (some ⟨gR, 1, none⟩)) rfl (by kernel_rfl) (by kernel_rfl) (by kernel_rfl) (fun _ _ _ h => h) (Or.inl ⟨by rfl, fun W h => by go_simp⟩) hS ?_
      refine wpAnyH_take (i := 2) (v := fv m) rfl (by kernel_rfl) (by kernel_rfl) (by kernel_rfl) (fun _ _ _ h => h) (Or.inl ⟨by rfl, fun W h => by have hb : W.cell? ⟨gR, 1, none⟩ = some (fv m) := (RuAt.c h.2.1 1); go_simp⟩) hS ?_
      go_simp
      refine wpAnyH_take (i := 3) (v := .agg (spA s)) rfl (by kernel_rfl) (by kernel_rfl) (by kernel_rfl) (fun _ _ _ h => h) (yieldsIf_load_mid (by rfl) 51 _ rfl w.heap.size 0 rfl (spL s) _ (fun _ h => SpAt.all h.1) Tryz.underlying51 rfl (by rw [show (spL s).length = 33 from by have := spA_size hfr; simpa [spA] using this]; kernel_rfl)) hS ?_
      refine wpAnyH_take (i := 4) (v := .slice ga tn tn) rfl (by kernel_rfl) (by kernel_rfl) (by kernel_rfl) (fun _ _ _ h => h) (Or.inl ⟨by rfl, fun W h => by go_simp⟩) hS ?_
      refine wpAnyH_ready (rs := [5]) (by kernel_rfl) (by simp) ?_
      refine AllReadyH.cons rfl (fun K hK => ?_) AllReadyH.nil
      go_simp
      rw [(unhide HRU).entG]
      refine (unhide HGI Wd (unhide HAd).ok (unhide HPTd)).mono ?_
      rintro e Wa ⟨⟨va, vc, rfl, hPv⟩, hBa⟩
      have HAa := hide ((unhide HAd).below hBa)
      have HRBa := hide ((unhide HRBd).below hBa (unhide HRBd).lt)
      have HFa := hide ((unhide HFd).below hBa (unhide HFd).lt)
      have HPv := hide hPv
      refine hK.out _ _ ⟨(unhide HAa).sp, unhide HRBa, unhide HFa⟩ (fun hS2 => ?_)
      clear hK K hS hBa HAd HRBd HFd HPTd hPv
      refine wpAnyH_ready (rs := [6]) (by kernel_rfl) (by simp) ?_
      refine AllReadyH.cons rfl (fun K hK => ?_) AllReadyH.nil
      go_simp
      go_wp2_with (go_at_call 37; refine (unhide HPS Y Wa va vc (unhide HOY) (unhide HPv)).mono ?_; rintro e Wb ⟨rfl, hBb⟩)
      have HAb := hide ((unhide HAa).below hBb)
      have HRBb := hide ((unhide HRBa).below hBb (unhide HRBa).lt)
      have HFb := hide ((unhide HFa).below hBb (unhide HFa).lt)
      refine hK.out _ _ ⟨(unhide HAb).sp, unhide HRBb, unhide HFb⟩ (fun hS3 => ?_)
      clear hK K hS2 hBb HAa HRBa HFa HPv
      have HOR := hide (pushA_ok (gvD s (takenD s.f tn)) Y (unhide HOY) (unhide HGVB))
      have HR2 : Hid (applyS s = ((pushA Y (gvD s (takenD s.f tn))).1, (pushA Y (gvD s (takenD s.f tn))).2)) := hide (unhide HR)
      generalize (pushA Y (gvD s (takenD s.f tn))).1 = F at HOR HR2 ⊢
      generalize (pushA Y (gvD s (takenD s.f tn))).2 = er at HR2 ⊢
      refine wpAnyH_take (i := 7) (v := .agg (frA F)) rfl (by kernel_rfl) (by kernel_rfl) (by kernel_rfl) (fun _ _ _ h => h) (Or.inl ⟨by rfl, fun W h => by go_simp⟩) hS3 ?_
      refine wpAnyH_take (i := 8) (v := .int .i64 er) rfl (by kernel_rfl) (by kernel_rfl) (by kernel_rfl) (fun _ _ _ h => h) (Or.inl ⟨by rfl, fun W h => by go_simp⟩) hS3 ?_
      refine wpAnyH_ready (rs := [9]) (by kernel_rfl) (by simp) ?_
      refine AllReadyH.cons rfl (fun K hK => ?_) AllReadyH.nil
      rw [if_pos (by rfl)]
      refine wp_store_row 29 _ _ rfl (w.heap.size + 1) (frA F) rfl rfl 29 (frA frZ) (unhide HAb).rz (sizeFr (unhide HOR)) (sizeEq frZ_ok (unhide HOR)) (frA_one _) ?_
      refine hK.out _ _ ⟨(setRow_other _ _ _ _ (by omega)).trans (unhide HAb).sp, (setRow_other _ _ _ _ (by have := unhide HGR; omega)).trans (unhide HRBb), (setRow_other _ _ _ _ (by have := unhide HGF; omega)).trans (unhide HFb)⟩ (fun hS4 => ?_)
      clear hK K hS3
      refine wpAnyH_take (i := 10) (v := .int .i64 er) rfl (by kernel_rfl) (by kernel_rfl) (by kernel_rfl) (fun _ _ _ h => h) (Or.inl ⟨by rfl, fun W h => by go_simp⟩) hS4 ?_
      refine wpAnyH_done (by kernel_rfl) ?_ _
      go_wp2_with fail
      exact bodyPost_ret (v := frTwo (F, er)) (results_fr2 rfl _ _ (w.heap.size + 1) F er (unhide HOR) rfl rfl ((unhide HAb).rz.row _)) rfl (unhide HE _ _ (unhide HR2) (below_setRow' (unhide HAb).bel (by omega) _))

end Go.Proofs.YtkodmpcnndbngaaGreatDoor
