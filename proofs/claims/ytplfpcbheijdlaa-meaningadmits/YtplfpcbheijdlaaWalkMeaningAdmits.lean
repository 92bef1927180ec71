/-
  The walk of the law MeaningAdmits: it returns true, and writes nothing that was there. Conditions: lengths fit.
-/
import Derived.Test.YtplfpcbheijdlaaMa1
import Derived.Deep.MidRow
import Derived.Deep.RegionHeld3
namespace Go.Proofs.Ytplfpcbheijdlaa
open Go.RowKit

theorem admD_nil : admD [] [] = true := rfl
theorem run_buildSg (W : World) : (Instr.build 25 #[]).run Try.prog W = .ok (.agg #[.slice none 0 0, .int .u8 0]) W := by kernel_rfl
theorem box_rangeM {W : World} {g : Nat} {cs : Array Value} {t : TypeId} (h : W.heap[g]? = some (.cells cs t (0, 0))) : W.rangeAt g 0 cs.toList := fun j v hv => by
  have e := cell_of_row W g (0 + j) _ _ _ h
  rw [e, Nat.zero_add]
  simpa using hv
theorem wpList_store_rowM {P : Program} {ops : Array Oper} {rest : List Oper} {o : Oper} {a : Act} {w : World} {Q : Exit → Act → World → Prop} (hgd : o.guard = none) (ty : TypeId) (x y : Operand) (ho : o.op = .store ty x y)
    (g : Nat) (cells : Array Value) (hx : a.eval x = .pointer (some ⟨g, 0, none⟩)) (hy : a.eval y = .agg cells)
    (t : TypeId) (old : Array Value) (hg : w.heap[g]? = some (.cells old t (0, 0))) (hi : (P.info? ty).map (·.size) = some cells.size)
    (hold : old.size = cells.size) (h1 : cells.all (·.oneCell') = true)
    (h : ∀ W', w.setRow g cells = W' → wpList P ops Q rest (a.put o.dst undef) W') : wpList P ops Q (o :: rest) a w :=
  wpList_store_row hgd ty x y ho g cells hx hy t old hg hi hold h1 (h _ rfl)
/-- What the law holds in its hands: the two boxes, the rows. -/
structure Mw (w W : World) (po ga so la : Option Addr) (pc gc : Nat) (ps : List Nat) (rt : Nat) (xs : List Int) (g : Nat) : Prop where
  a : SBx W w.heap.size (.slice po ps.length pc) rt
  b : SBx W g (.slice ga ps.length gc) rt
  p : PAt W po ps
  q : PAt W ga ps
  x : JsAt W so xs
  y : JsAt W la xs
  bel : Below w.heap.size w W
theorem Mw.below {w W W' : World} {po ga so la : Option Addr} {pc gc : Nat} {ps : List Nat} {rt : Nat} {xs : List Int} {g : Nat} (h : Mw w W po ga so la pc gc ps rt xs g) (hb : Below W.heap.size W W') : Mw w W' po ga so la pc gc ps rt xs g :=
  ⟨(hb.block _ h.a.lt).trans h.a, (hb.block _ h.b.lt).trans h.b, h.p.below hb, h.q.below hb, h.x.below hb, h.y.below hb, h.bel.trans (hb.mono h.bel.size)⟩
set_option maxHeartbeats 4000000 in
theorem walkMeaningAdmits {w : World} (po : Option Addr) (pc : Nat) (ps : List Nat) (rt : Nat) (hp : PAt w po ps) (hpn : po = none → ps = []) (hn : ps.length ≤ 140737488351232) (so : Option Addr) (sc : Nat) (xs : List Int) (hx : JsAt w so xs) (hxn : so = none → xs = []) (_hxb : ∀ a ∈ xs, -9223372036854775808 ≤ a ∧ a ≤ 9223372036854775807) (hxl : xs.length ≤ 17592186043904) :
    Calls Try.prog 3 #[.agg #[.slice po ps.length pc, .int .u8 (rt : Int)], .slice so xs.length sc] w fun e w' => e = .returned (.bool true) ∧ Below w.heap.size w w' := by
  have al := (Below.refl w.heap.size w).alloc (Nat.le_refl _) (.cells #[.slice po ps.length pc, .int .u8 (rt : Int)] 25)
  have HB := hide al
  have HS : Hid (SBx (w.alloc (.cells #[.slice po ps.length pc, .int .u8 (rt : Int)] 25)) w.heap.size (.slice po ps.length pc) rt) := hide (heap_alloc_new w _)
  have HP := hide (hp.below al)
  have HX : Hid (JsAt (w.alloc (.cells #[.slice po ps.length pc, .int .u8 (rt : Int)] 25)) so xs) := hide (hx.below al)
  have HPN := hide hpn
  have HXN := hide hxn
  clear al hp hx hpn hxn _hxb
  go_enter Try.func3, Try.ntmps3
  go_upto_region 1 with fail
  generalize (w.alloc (.cells #[.slice po ps.length pc, .int .u8 (rt : Int)] 25)) = W1 at HB HS HP HX ⊢
  have k0 := (unhide HS).c0
  have k1 := (unhide HS).c1
  have HZ := hide run_buildSg
  go_wp2_with fail
  refine (Sig_any po pc ps rt W1 (unhide HP) (unhide HPN) hn).mono ?_
  rintro e W2 ⟨ga, gc, rfl, hO, hB2⟩
  obtain ⟨ga', gc', e1, hG⟩ := hO.at
  injection e1 with e1 e2 e3
  subst e1
  have HS2 : Hid (SBx W2 w.heap.size (.slice po ps.length pc) rt) := hide ((hB2.block _ (unhide HS).lt).trans (unhide HS))
  have HP2 := hide ((unhide HP).below hB2)
  have HX2 := hide ((unhide HX).below hB2)
  have HB2 := hide ((unhide HB).trans (hB2.mono (unhide HB).size))
  have HG := hide hG.1
  clear hO hB2 hG HS HP HX HB k0 k1 e2 e3
  go_wp2_with fail
  refine (CloneJ_any so sc xs W2 (unhide HX2) (unhide HXN) hxl).mono ?_
  rintro e W3 ⟨v, rfl, hO, hB3⟩
  obtain ⟨la, lc, rfl, hL, _⟩ := hO.at
  have HZ3 : Hid (SBx (W3.alloc (.cells #[.slice none 0 0, .int .u8 0] 25)) W3.heap.size (.slice none 0 0) 0) := hide (heap_alloc_new W3 _)
  have al := (Below.refl W3.heap.size W3).alloc (Nat.le_refl _) (.cells #[.slice none 0 0, .int .u8 0] 25)
  have HGT : Hid (w.heap.size < W3.heap.size) := hide (by have := (unhide HS2).lt; have := hB3.size; omega)
  have HM4 : Hid (∀ W4, (W3.alloc (.cells #[.slice none 0 0, .int .u8 0] 25)).setRow W3.heap.size #[.slice ga ps.length gc, .int .u8 (rt : Int)] = W4 → Mw w W4 po ga so la pc gc ps rt xs W3.heap.size) := hide (fun W4 hW4 => by
    have hBs : Below W3.heap.size W3 W4 := by rw [← hW4]; exact below_setRow' al (Nat.le_refl _) _
    have hB4 := hB3.trans (hBs.mono hB3.size)
    exact ⟨(hB4.block _ (unhide HS2).lt).trans (unhide HS2), by rw [← hW4]; exact setRow_heap _ _ _ _ _ _ (unhide HZ3), (unhide HP2).below hB4, (unhide HG).below hB4, (unhide HX2).below hB4, hL.below hBs, (unhide HB2).trans (hB4.mono (unhide HB2).size)⟩)
  clear hO hB3 hL al
  go_upto_region 2 with (refine wpList_store_rowM rfl 25 (.tmp 5) (.tmp 8) rfl W3.heap.size #[.slice ga ps.length gc, .int .u8 (rt : Int)] rfl rfl 25 #[.slice none 0 0, .int .u8 0] (unhide HZ3) (by kernel_rfl) rfl (by simp [Value.oneCell']) (fun W4 hW4 => ?_))
  have HM := hide ((unhide HM4 W4 hW4).below (below_drew W4 1))
  clear hW4 HZ3 HM4 HS2 HP2 HX2 HB2 HG
  generalize W3.heap.size = gN at HM HGT ⊢
  clear W3 W2 W1
  obtain ⟨bb, HBB⟩ : ∃ bb, Hid (admD ps xs = bb) := ⟨_, hide rfl⟩
  have HA1 : Hid (∀ W, Mw w W po ga so la pc gc ps rt xs gN → Calls Try.prog 6 #[.agg #[.slice ga ps.length gc, .int .u8 (rt : Int)], .slice la xs.length lc] W fun e w' => e = .returned (.bool bb) ∧ Below W.heap.size W w') := hide (fun W h => by
    have := Admits_any ga gc ps rt la lc xs W h.q h.y hn
    rw [unhide HBB] at this
    exact this)
  have HA2 : Hid (∀ W, Mw w W po ga so la pc gc ps rt xs gN → Calls Try.prog 7 #[.agg #[.slice po ps.length pc, .int .u8 (rt : Int)], .slice so xs.length sc] W fun e w' => e = .returned (.bool bb) ∧ Below W.heap.size W w') := hide (fun W h => by
    have := refAdmits_any po pc ps rt so sc xs W h.p h.x hn
    rw [unhide HBB] at this
    exact this)
  have HA3 : Hid (∀ W, Calls Try.prog 6 #[.agg #[.slice none 0 0, .int .u8 0], .slice none 0 0] W fun e w' => e = .returned (.bool true) ∧ Below W.heap.size W w') := hide (fun W => Admits_any none 0 [] 0 none 0 [] W (fun i t h => by simp at h) (fun i t h => by simp at h) (by simp))
  clear HBB
  have hbb : (bb == bb) = true := by simp
  refine wp_region_held_drew (S := fun w' => Mw w w' po ga so la pc gc ps rt xs gN) (by kernel_rfl) (unhide HM) (fun hS => ?_)
  generalize hWd : W4.drewN 1 = V0 at HM
  change W4.drew = V0 at hWd
  rw [hWd] at hS ⊢
  clear hWd W4
  refine wpAnyH_take (i := 0) (v := .agg #[.slice ga ps.length gc, .int .u8 (rt : Int)]) rfl (by kernel_rfl) (by kernel_rfl) (by kernel_rfl) (fun _ _ _ h => h) (yieldsIf_load_mid (by rfl) 25 _ rfl (gN) 0 rfl _ _ (fun _ h => box_rangeM h.b) Try.underlying25 rfl (by kernel_rfl)) hS ?_
  refine wpAnyH_take (i := 1) (v := .slice la xs.length lc) rfl (by kernel_rfl) (by kernel_rfl) (by kernel_rfl) (fun _ _ _ h => h) (Or.inl ⟨by rfl, fun W h => by go_simp⟩) hS ?_
  refine wpAnyH_take (i := 3) (v := .agg #[.slice po ps.length pc, .int .u8 (rt : Int)]) rfl (by kernel_rfl) (by kernel_rfl) (by kernel_rfl) (fun _ _ _ h => h) (yieldsIf_load_mid (by rfl) 25 _ rfl (w.heap.size) 0 rfl _ _ (fun _ h => box_rangeM h.a) Try.underlying25 rfl (by kernel_rfl)) hS ?_
  refine wpAnyH_take (i := 4) (v := .slice so xs.length sc) rfl (by kernel_rfl) (by kernel_rfl) (by kernel_rfl) (fun _ _ _ h => h) (Or.inl ⟨by rfl, fun W h => by go_simp⟩) hS ?_
  refine wpAnyH_ready (rs := [2]) (by kernel_rfl) (by simp) ?_
  refine AllReadyH.cons rfl (fun K hK => ?_) AllReadyH.nil
  go_simp
  go_wp2_with (go_at_call 6; refine (unhide HA1 _ (unhide HM)).mono ?_; rintro e V1 ⟨rfl, hBn⟩)
  have HM2 := hide ((unhide HM).below hBn)
  clear hBn HM
  refine hK.out _ _ (unhide HM2) (fun hS2 => ?_)
  clear hK K hS
  have hS := hS2
  have HM := HM2
  clear hS2 HM2
  refine wpAnyH_ready (rs := [5]) (by kernel_rfl) (by simp) ?_
  refine AllReadyH.cons rfl (fun K hK => ?_) AllReadyH.nil
  go_simp
  go_wp2_with (go_at_call 7; refine (unhide HA2 _ (unhide HM)).mono ?_; rintro e V2 ⟨rfl, hBn⟩)
  have HM2 := hide ((unhide HM).below hBn)
  clear hBn HM
  refine hK.out _ _ (unhide HM2) (fun hS2 => ?_)
  clear hK K hS
  have hS := hS2
  have HM := HM2
  clear hS2 HM2
  refine wpAnyH_take (i := 6) (v := .bool true) rfl (by kernel_rfl) (by kernel_rfl) (by kernel_rfl) (fun _ _ _ h => h) (Or.inl ⟨by rfl, fun W h => by go_simp⟩) hS ?_
  refine wpAnyH_take (i := 7) (v := .bool true) rfl (by kernel_rfl) (by kernel_rfl) (by kernel_rfl) (fun _ _ _ h => h) (Or.inl ⟨by rfl, fun W h => by go_simp⟩) hS ?_
  refine wpAnyH_take (i := 8) (v := .agg #[.slice ga ps.length gc, .int .u8 (rt : Int)]) rfl (by kernel_rfl) (by kernel_rfl) (by kernel_rfl) (fun _ _ _ h => h) (yieldsIf_load_mid (by rfl) 25 _ rfl (gN) 0 rfl _ _ (fun _ h => box_rangeM h.b) Try.underlying25 rfl (by kernel_rfl)) hS ?_
  refine wpAnyH_take (i := 9) (v := .agg #[.slice po ps.length pc, .int .u8 (rt : Int)]) rfl (by kernel_rfl) (by kernel_rfl) (by kernel_rfl) (fun _ _ _ h => h) (yieldsIf_load_mid (by rfl) 25 _ rfl (w.heap.size) 0 rfl _ _ (fun _ h => box_rangeM h.a) Try.underlying25 rfl (by kernel_rfl)) hS ?_
  refine wpAnyH_ready (rs := [10]) (by kernel_rfl) (by simp) ?_
  refine AllReadyH.cons rfl (fun K hK => ?_) AllReadyH.nil
  go_simp
  go_wp2_with (go_at_call 8; refine (SameSig_yes ga po gc pc ps rt _ (unhide HM).q (unhide HM).p hn).mono ?_; rintro e V3 ⟨rfl, hBn⟩)
  have HM2 := hide ((unhide HM).below hBn)
  clear hBn HM
  refine hK.out _ _ (unhide HM2) (fun hS2 => ?_)
  clear hK K hS
  have hS := hS2
  have HM := HM2
  clear hS2 HM2
  refine wpAnyH_take (i := 11) (v := .bool true) rfl (by kernel_rfl) (by kernel_rfl) (by kernel_rfl) (fun _ _ _ h => h) (Or.inl ⟨by rfl, fun W h => by go_simp⟩) hS ?_
  refine wpAnyH_take (i := 12) (v := .bool true) rfl (by kernel_rfl) (by kernel_rfl) (by kernel_rfl) (fun _ _ _ h => h) (Or.inl ⟨by rfl, fun W h => by go_simp⟩) hS ?_
  refine wpAnyH_take (i := 13) (v := .slice la xs.length lc) rfl (by kernel_rfl) (by kernel_rfl) (by kernel_rfl) (fun _ _ _ h => h) (Or.inl ⟨by rfl, fun W h => by go_simp⟩) hS ?_
  refine wpAnyH_take (i := 14) (v := .slice so xs.length sc) rfl (by kernel_rfl) (by kernel_rfl) (by kernel_rfl) (fun _ _ _ h => h) (Or.inl ⟨by rfl, fun W h => by go_simp⟩) hS ?_
  refine wpAnyH_ready (rs := [15]) (by kernel_rfl) (by simp) ?_
  refine AllReadyH.cons rfl (fun K hK => ?_) AllReadyH.nil
  go_simp
  go_wp2_with (go_at_call 9; refine (EqualJ_same (c := lc) (d := sc) (unhide HM).y (unhide HM).x (by omega)).mono ?_; rintro e V4 ⟨rfl, q, rfl⟩)
  have HM2 := hide ((unhide HM).below (below_drew _ q))
  clear HM
  refine hK.out _ _ (unhide HM2) (fun hS2 => ?_)
  clear hK K hS
  have hS := hS2
  have HM := HM2
  clear hS2 HM2
  refine wpAnyH_take (i := 16) (v := .bool true) rfl (by kernel_rfl) (by kernel_rfl) (by kernel_rfl) (fun _ _ _ h => h) (Or.inl ⟨by rfl, fun W h => by go_simp⟩) hS ?_
  refine wpAnyH_take (i := 17) (v := .bool true) rfl (by kernel_rfl) (by kernel_rfl) (by kernel_rfl) (fun _ _ _ h => h) (Or.inl ⟨by rfl, fun W h => by go_simp⟩) hS ?_
  refine wpAnyH_take (i := 18) (v := .agg #[.slice none 0 0, .int .u8 0]) rfl (by kernel_rfl) (by kernel_rfl) (by kernel_rfl) (fun _ _ _ h => h) (Or.inl ⟨by rfl, fun W h => by have hz := unhide HZ W; go_simp⟩) hS ?_
  refine wpAnyH_ready (rs := [19]) (by kernel_rfl) (by simp) ?_
  refine AllReadyH.cons rfl (fun K hK => ?_) AllReadyH.nil
  go_simp
  go_wp2_with (go_at_call 6; refine (unhide HA3 _).mono ?_; rintro e V5 ⟨rfl, hBn⟩)
  have HM2 := hide ((unhide HM).below hBn)
  clear hBn HM
  refine hK.out _ _ (unhide HM2) (fun hS2 => ?_)
  clear hK K hS
  have hS := hS2
  have HM := HM2
  clear hS2 HM2
  refine wpAnyH_take (i := 20) (v := .bool true) rfl (by kernel_rfl) (by kernel_rfl) (by kernel_rfl) (fun _ _ _ h => h) (Or.inl ⟨by rfl, fun W h => by go_simp⟩) hS ?_
  refine wpAnyH_ready (rs := [21]) (by kernel_rfl) (by simp) ?_
  refine AllReadyH.cons rfl (fun K hK => ?_) AllReadyH.nil
  go_simp
  refine hK.out _ _ (unhide HM) (fun hS2 => ?_)
  clear hK K hS hS2
  refine wpAnyH_done (by kernel_rfl) ?_ _
  go_wp2
  go_ret
  exact ⟨rfl, (unhide HM).bel⟩
end Go.Proofs.Ytplfpcbheijdlaa
