/-
  The walk of the law FlowOwn: it returns true for all bytes and instructions, and writes nothing that was there.
-/
import Derived.Test.YtdpfinnclnapbaaDoorShJ
import Derived.Test.YtdpfinnclnapbaaDoorFp1
import Derived.Test.YtdpfinnclnapbaaDoorOd2
import Derived.Test.YtdpfinnclnapbaaDoorBk9
import Derived.Deep.RegionHeld
import Derived.Deep.RegionHeld3
import Derived.Deep.WholeRow
import Derived.OpenShut
namespace Go.Proofs.YtdpfinnclnapbaaDoor
open Go.RowKit
set_option maxRecDepth 20000

theorem yieldsIf_load_inO {ops : Array Oper} {S : World → Prop} {o : Oper} {c : Act} (hw : Region.wanted o (yielded ops c.tmps) = true) (x : Operand) (ho : o.op = .load 31 x)
    (g : Nat) (hx : c.eval x = .pointer (some ⟨g, 0, none⟩)) (p : Int) (op : Nat) (a b : Int) (hS : ∀ w, S w → IAt w g p op a b) : YieldsIf Tryd.prog ops S o (.agg #[.int .i64 p, .int .u8 (op : Int), .int .i64 a, .int .i64 b]) c :=
  .inl ⟨hw, fun w hw' => by
    unfold execOp
    simp only [ho, hx, Instr.loadAt, Instr.sureAddr, Sem.run_bind, Sem.run_pure, Result.andThen_ok, run_loadVar_row w g 31 31 #[.int .i64 p, .int .u8 (op : Int), .int .i64 a, .int .i64 b] (0, 0) _ (hS w hw') Tryd.underlying31 rfl (by kernel_rfl)]⟩
theorem rowKeepG {S : Nat → Prop} {w w' : World} {B s : Nat} {t : TypeId} {v : Value} {n : Nat} {cs : List Value} (h : w.ownsRow B t s v n cs) (hk : Kept S w w') (hs : ∀ k, v.ownBlock = some k → ¬ S k) : w'.ownsRow B t s v n cs := by
  refine ⟨h.1, ?_⟩
  rcases h.2 with h1 | ⟨g, cap, cur, hv, hbg, hh, r⟩
  · exact Or.inl h1
  · exact Or.inr ⟨g, cap, cur, hv, hbg, by rw [hk.block g (Array.getElem?_eq_some_iff.1 hh).1 (hs g (by rw [hv]; rfl))]; exact hh, r⟩
/-- The shelf while lists are put there; w is the world ahead of it. -/
structure FO (w wr : World) (sp : Nat) (sv : Value) (its : List Value) : Prop where
  sh : Sh wr sp sv its
  itk : Its wr its 0
  apt : Apart its
  itb : ∀ (i : Nat) u, its[i]? = some u → ∀ k, u.ownBlock = some k → w.heap.size ≤ k
  bel : Below w.heap.size w wr
  spb : w.heap.size ≤ sp
  svb : ∀ k, sv.ownBlock = some k → w.heap.size ≤ k
theorem FO.below {w wr w' : World} {sp : Nat} {sv : Value} {its : List Value} (h : FO w wr sp sv its) (hb : Below wr.heap.size wr w') : FO w w' sp sv its :=
  ⟨h.sh.below hb, h.itk.keep (Kept.of_below hb (fun _ => False)) (fun _ _ _ _ _ h => h), h.apt, h.itb, h.bel.trans (hb.mono h.bel.size), h.spb, h.svb⟩
theorem FO.lt {w wr : World} {sp : Nat} {sv : Value} {its : List Value} (h : FO w wr sp sv its) : ∀ (i : Nat) u, its[i]? = some u → ∀ k, u.ownBlock = some k → k < wr.heap.size := fun i u hu k hk => by
  obtain ⟨l, ho, _⟩ := h.itk i u hu
  exact (World.ownsRow.lt ho k hk).2
theorem FO.push {w wr w2 : World} {sp b : Nat} {sv sv' v : Value} {its : List Value} {l : List Int} (h : FO w wr sp sv its) (hO : OwnJ wr b v l) (hl : l.length ≤ 1000000) (hvb : ∀ k, v.ownBlock = some k → w.heap.size ≤ k) (hne : ∀ (i : Nat) u, its[i]? = some u → ∀ k, u.ownBlock = some k → v.ownBlock ≠ some k)
    (hs : Sh w2 sp sv' (its ++ [v])) (hK : Kept (fun k => k = sp ∨ sv.ownBlock = some k) wr w2) (hsv : ∀ k, sv'.ownBlock = some k → sv.ownBlock = some k ∨ wr.heap.size ≤ k) : FO w w2 sp sv' (its ++ [v]) := by
  have key : ∀ {B : Nat} {u : Value} {m : List Int}, OwnJ wr B u m → OwnJ w2 B u m := fun ho => ho.keep hK (fun k hk e => by
    have := h.sh.ints ho
    rcases e with e | e
    · exact this.1 (by rw [hk, e])
    · exact this.2 k hk e)
  refine ⟨hs, ?_, ?_, ?_, ?_, h.spb, ?_⟩
  · intro i u hu
    by_cases hi : i < its.length
    · rw [List.getElem?_append_left hi] at hu
      obtain ⟨m, ho, h2, h3⟩ := h.itk i u hu
      exact ⟨m, key ho, h2, h3⟩
    · rw [List.getElem?_append_right (by omega)] at hu
      have hi0 : i - its.length = 0 := by
        have := (List.getElem?_eq_some_iff.1 hu).1
        simp at this
        omega
      rw [hi0] at hu
      simp at hu
      subst hu
      exact ⟨l, (key hO).mono (Nat.zero_le _), hl, fun h => by omega⟩
  · intro i j a c ha hc hij k hk e
    by_cases hi : i < its.length
    · rw [List.getElem?_append_left hi] at ha
      by_cases hj : j < its.length
      · rw [List.getElem?_append_left hj] at hc
        exact h.apt i j a c ha hc hij k hk e
      · rw [List.getElem?_append_right (by omega)] at hc
        have hj0 : j - its.length = 0 := by have := (List.getElem?_eq_some_iff.1 hc).1; simp at this; omega
        rw [hj0] at hc
        simp at hc
        subst hc
        exact hne i a ha k hk e
    · rw [List.getElem?_append_right (by omega)] at ha
      have hi0 : i - its.length = 0 := by have := (List.getElem?_eq_some_iff.1 ha).1; simp at this; omega
      rw [hi0] at ha
      simp at ha
      subst ha
      by_cases hj : j < its.length
      · rw [List.getElem?_append_left hj] at hc
        exact hne j c hc k e hk
      · have := (List.getElem?_eq_some_iff.1 hc).1
        simp at this
        omega
  · intro i u hu k hk
    by_cases hi : i < its.length
    · rw [List.getElem?_append_left hi] at hu
      exact h.itb i u hu k hk
    · rw [List.getElem?_append_right (by omega)] at hu
      have hi0 : i - its.length = 0 := by have := (List.getElem?_eq_some_iff.1 hu).1; simp at this; omega
      rw [hi0] at hu
      simp at hu
      subst hu
      exact hvb k hk
  · exact hK.below h.bel h.bel.size (fun k e => by
      rcases e with e | e
      · rw [e]; exact h.spb
      · exact h.svb k e)
  · intro k hk
    rcases hsv k hk with e | e
    · exact h.svb k e
    · exact Nat.le_trans h.bel.size e
/-- A list in new memory is put there. -/
theorem FO.add {w wr w' w2 : World} {sp : Nat} {sv sv' v : Value} {its : List Value} {l : List Int} (h : FO w wr sp sv its) (hB : Below wr.heap.size wr w') (hO : OwnJ w' wr.heap.size v l) (hl : l.length ≤ 1000000)
    (hs : Sh w2 sp sv' (its ++ [v])) (hK : Kept (fun k => k = sp ∨ sv.ownBlock = some k) w' w2) (hsv : ∀ k, sv'.ownBlock = some k → sv.ownBlock = some k ∨ w'.heap.size ≤ k) : FO w w2 sp sv' (its ++ [v]) :=
  (h.below hB).push hO hl (fun k hk => Nat.le_trans h.bel.size (World.ownsRow.lt hO k hk).1) (fun i u hu k hk e => by
    have h1 := h.lt i u hu k hk
    have h2 := (World.ownsRow.lt hO k e).1
    omega) hs hK hsv
def nvB (y : Bx) : Value := .slice y.no y.nx.length y.nc
theorem lvO_shape {G : List Bx} : (ordD G).length ≤ G.length + G.length := by
  unfold ordD
  by_cases h : G.length = 0
  · rw [if_pos h]; simp
  · rw [if_neg h, List.length_append, List.length_reverse]
    have h1 := lvO_ct (G := G) (by omega)
    have h2 := unm_len (lvO G).1 G.length
    omega
theorem Sh.rows {w : World} {sp : Nat} {sv : Value} {its : List Value} (h : Sh w sp sv its) {B s n : Nat} {t : TypeId} {v : Value} {cs : List Value} (ho : w.ownsRow B t s v n cs) (h1 : t ≠ 43) (h2 : t ≠ 32) : ∀ k, v.ownBlock = some k → ¬ (k = sp ∨ sv.ownBlock = some k) := by
  intro k hk e
  obtain ⟨c1, g1⟩ := rowTyB ho k hk
  rcases e with e | e
  · subst e
    rw [h.box] at g1
    simp at g1
    exact h1 g1.2.symm
  · obtain ⟨c2, g2⟩ := rowTyB h.row k e
    rw [g1] at g2
    simp at g2
    exact h2 g2.2
theorem bk_bounds {l : List Ix} (hk : xok l) {y : Int × Int × List Int} (h : y ∈ bkD l) : (-9223372036854775808 ≤ y.1 ∧ y.1 ≤ 9223372036854775807) ∧ ∀ a ∈ y.2.2, -9223372036854775808 ≤ a ∧ a ≤ 9223372036854775807 := by
  unfold bkD at h
  split at h
  · obtain ⟨k, _, rfl⟩ := List.mem_map.1 h
    unfold blkN
    simp only
    constructor
    · unfold pD
      cases hx : l[(ldN l l.length).getD k 0]? with
      | none => simp
      | some x =>
        have := hk x (List.mem_of_getElem? hx)
        simp only
        omega
    · intro a ha
      unfold nxD at ha
      split at ha
      · have hp := (List.mem_filter.1 ha).2
        unfold hasP at hp
        rw [List.any_eq_true] at hp
        obtain ⟨z, hz, e⟩ := hp
        have e : z.p = a := by simpa using e
        have := hk z hz
        omega
      · cases ha
  · cases h
/-- The shelf, newly made. -/
theorem FO.new (w : World) : FO w (w.alloc (.cells #[.slice none 0 0, .slice none 0 0] 43)) w.heap.size (.slice none 0 0) [] :=
  ⟨⟨heap_alloc_new w _, World.ownsRow_nil _ _ _ _⟩, fun i v hv => by simp at hv, fun i j a b ha => by simp at ha, fun i u hu => by simp at hu, (Below.refl _ _).alloc (Nat.le_refl _) _, Nat.le_refl _, fun k hk => by cases hk⟩

set_option maxRecDepth 20000 in
set_option maxHeartbeats 8000000 in
theorem walkFlowOwn {w : World} (hW : WidAt w) (ao : Option Addr) (c : Nat) (L : List UInt8) (hl : BAt w ao L) (_hn : ao = none → L = []) (hb : L.length ≤ 140737488351232) (hc : L.length ≤ c) (p : Int) (op : Nat) (a b : Int) (ho : op < 256) (_ : -9223372036854775808 ≤ a ∧ a ≤ 9223372036854775807) (_ : -9223372036854775808 ≤ b ∧ b ≤ 9223372036854775807) :
    Calls Tryd.prog 4 #[.slice ao L.length c, .agg #[.int .i64 p, .int .u8 (op : Int), .int .i64 a, .int .i64 b]] w fun e w' => e = .returned (.bool true) ∧ Below w.heap.size w w' := by
  have I0 := hide (IAt.new' w p op a b)
  have hal := ((Below.refl w.heap.size w).alloc (Nat.le_refl _) (.cells #[.int .i64 p, .int .u8 (op : Int), .int .i64 a, .int .i64 b] 31))
  have B0 := hide hal
  have D0 := hide (hW.below hal)
  have HC := hide (refScan_any ao c L _ (hl.below' hal) (by omega) hc)
  have hlen := scR_len L
  have hbd := scR_bd L
  have HPA := hide (fun h => sc_parts (L := L) h)
  clear hal hW hl hc
  generalize scR L = R at HC hlen hbd HPA
  obtain ⟨l, pp, er⟩ := R
  simp only [] at HC hlen hbd HPA
  have HBD := hide hbd
  clear hbd
  go_enter Tryd.func4, Tryd.ntmps4
  go_upto_region 1 with fail
  generalize (w.alloc (.cells #[.int .i64 p, .int .u8 (op : Int), .int .i64 a, .int .i64 b] 31)) = W0 at I0 B0 D0 HC ⊢
  go_wp2_with fail
  with_reducible refine (unhide HC).mono ?_
  rintro e W1 ⟨v, rfl, hO, hK, hB1⟩
  obtain ⟨oa, oc, rfl, hX⟩ := hO.at (fun f hf => by have := (hK f hf).1; omega)
  have HX := hide hX
  have HKO := hide hK
  have I1 := hide ((unhide I0).below hB1)
  have D1 := hide ((unhide D0).below hB1)
  have B1 := hide ((unhide B0).trans (hB1.mono (unhide B0).size))
  clear hO hX hK hB1 HC I0 D0 B0
  by_cases he : er = 0
  · subst he
    have hll : l.length ≤ 4097 := hlen
    obtain ⟨h4096, _⟩ := unhide HPA rfl
    have HF0 := hide (FO.new W1)
    clear HPA hlen h4096
    go_upto_region 5 with fail
    generalize (W1.alloc (.cells #[.slice none 0 0, .slice none 0 0] 43)) = W2 at HF0 ⊢
    generalize hsp : W1.heap.size = sp at HF0 ⊢
    clear hsp
    go_wp2
    go_loopw [26] (fun i wr => ∃ (k : Nat) (sv : Value) (its : List Value), k ≤ 2 ∧ i = .int .i64 (k : Int) ∧ Hid (FO W1 wr sp sv its) ∧ Hid (its.length ≤ k * 4102 ∧ (k = 0 ∨ 0 < its.length))) (fun i _ => 2 - (intOf i).toNat)
    case atStart => exact ⟨0, _, [], by omega, rfl, HF0, hide ⟨by simp, .inl rfl⟩⟩
    case round =>
      obtain ⟨k, sv, its, hk, rfl, HF, HLn⟩ := hrel
      by_cases hk2 : k < 2
      · have j1 : ((k : Nat) : Int) < 2 := by omega
        have hil : its.length ≤ 10000 := by have := (unhide HLn).1; omega
        have Ir := hide ((unhide I1).below (unhide HF).bel)
        have HNx := hide (Next_any p op a b wr ((unhide D1).below (unhide HF).bel) ho)
        have hnl := nextD_len p op a
        go_wp2_with (refine wpList_load_row rfl 31 (.tmp 3) rfl w.heap.size rfl 31 #[.int .i64 p, .int .u8 (op : Int), .int .i64 a, .int .i64 b] (0, 0) _ (unhide Ir) Tryd.underlying31 rfl (by kernel_rfl) ?_)
        refine (unhide HNx).mono ?_
        rintro e w1 ⟨v, rfl, hO, hB⟩
        obtain ⟨na, nc, rfl, _, _⟩ := hO.at
        have HSh := hide (ShInts ((unhide HF).below hB).sh na (nextD p op a).length nc (by omega))
        have HA := hide (fun w2 sv' => (unhide HF).add (w2 := w2) (sv' := sv') hB hO (by omega))
        clear hO hB HNx Ir
        go_wp2_with fail
        refine (unhide HSh).mono ?_
        rintro e w2 ⟨rfl, sv2, hs, hK, hsv⟩
        have HF2 := hide (unhide HA w2 sv2 hs hK hsv)
        have HTg := hide (Targets_any oa oc l w2 ((unhide HX).below (unhide HF2).bel) (by omega) (unhide HBD))
        have hpl := Nat.le_trans (pts_len (tgs l)) (tgs_len l)
        clear hs hK hsv HA HSh HF
        go_wp2_with fail
        refine (unhide HTg).mono ?_
        rintro e w3 ⟨v, rfl, hO, hB⟩
        obtain ⟨ta, tc, rfl, _, _⟩ := hO.at
        have HSh := hide (ShInts ((unhide HF2).below hB).sh ta (pts (tgs l)).length tc (by rw [List.length_append]; simp; omega))
        have HA := hide (fun w2 sv' => (unhide HF2).add (w2 := w2) (sv' := sv') hB hO (by omega))
        clear hO hB HTg
        go_wp2_with fail
        refine (unhide HSh).mono ?_
        rintro e w4 ⟨rfl, sv4, hs, hK, hsv⟩
        have HF4 := hide (unhide HA w4 sv4 hs hK hsv)
        have HTg := hide (Behind_any oa oc l w4 ((unhide HX).below (unhide HF4).bel) ((unhide D1).below (unhide HF4).bel) (by omega))
        have hpb := Nat.le_trans (pts_len (behs l)) (behs_len l)
        clear hs hK hsv HA HSh HF2 hpl
        go_wp2_with fail
        refine (unhide HTg).mono ?_
        rintro e w5 ⟨v, rfl, hO, hB⟩
        obtain ⟨ba, bc, rfl, _, _⟩ := hO.at
        have HSh := hide (ShInts ((unhide HF4).below hB).sh ba (pts (behs l)).length bc (by simp only [List.length_append, List.length_singleton]; omega))
        have HA := hide (fun w2 sv' => (unhide HF4).add (w2 := w2) (sv' := sv') hB hO (by omega))
        clear hO hB HTg
        go_wp2_with fail
        refine (unhide HSh).mono ?_
        rintro e w6 ⟨rfl, sv6, hs, hK, hsv⟩
        have HF6 := hide (unhide HA w6 sv6 hs hK hsv)
        have HTg := hide (Reach_any oa oc l 0 w6 ((unhide HX).below (unhide HF6).bel) ((unhide D1).below (unhide HF6).bel) (by omega) (fun x hx => by have := (unhide HKO x hx).2; omega) (unhide HBD) (by omega))
        clear hs hK hsv HA HSh HF4 hpb
        go_wp2_with fail
        refine (unhide HTg).mono ?_
        rintro e w7 ⟨v, js, rfl, hO, _, _, hjl, hB⟩
        obtain ⟨ra, rc, rfl, _, _⟩ := hO.at
        have HSh := hide (ShInts ((unhide HF6).below hB).sh ra js.length rc (by simp only [List.length_append, List.length_singleton]; omega))
        have HA := hide (fun w2 sv' => (unhide HF6).add (w2 := w2) (sv' := sv') hB hO (by omega))
        clear hO hB HTg
        go_wp2_with fail
        refine (unhide HSh).mono ?_
        rintro e w8 ⟨rfl, sv8, hs, hK, hsv⟩
        have HF8 := hide (unhide HA w8 sv8 hs hK hsv)
        have hil8 : Hid ((its ++ [Value.slice na (nextD p op a).length nc] ++ [Value.slice ta (pts (tgs l)).length tc] ++ [Value.slice ba (pts (behs l)).length bc] ++ [Value.slice ra js.length rc]).length = its.length + 4) := hide (by simp)
        generalize (its ++ [Value.slice na (nextD p op a).length nc] ++ [Value.slice ta (pts (tgs l)).length tc] ++ [Value.slice ba (pts (behs l)).length bc] ++ [Value.slice ra js.length rc]) = it8 at HF8 hil8
        have HBl := hide (Blocks_apt oa oc l w8 ((unhide HX).below (unhide HF8).bel) (by omega) ((unhide D1).below (unhide HF8).bel) (fun x hx => ⟨unhide HBD x hx, by have := (unhide HKO x hx).2; omega⟩))
        clear hs hK hsv HA HSh HF6
        go_wp2_with fail
        refine (unhide HBl).mono ?_
        rintro e w9 ⟨vb, M, rfl, hOK, hN, hP, hB, hap⟩
        have hMl : M.length ≤ 4097 := by have h1 := congrArg List.length hP; have := bk_len2 l; simp at h1; omega
        have HFEW : Hid (∀ y ∈ M, y.nx.length ≤ 2) := hide (fun y hy => bk_nx2 (l := l) (y := y.pl) (by rw [← hP]; exact List.mem_map_of_mem hy))
        have HF9 := hide ((unhide HF8).below hB)
        have HLT := hide (unhide HF8).lt
        have HAP := hide hap
        have HOK := hide hOK
        have HN := hide hN
        have hw8 := (unhide HF8).bel.size
        clear hP hB hap hOK hN HBl HF8
        obtain ⟨va, vc, hvb⟩ : ∃ va vc, vb = .slice va M.length vc := by obtain ⟨x, y, e, _⟩ := (unhide HOK).at (unhide HN); exact ⟨x, y, e⟩
        subst hvb
        go_wp2
        go_loopw [47] (fun i wq => ∃ (j : Nat) (sw : Value), j ≤ M.length ∧ i = .int .i64 (j : Int) ∧ Hid (FO W1 wq sp sw (it8 ++ (M.take j).map nvB)) ∧ Hid (OwnK wq w8.heap.size (.slice va M.length vc) M) ∧ Hid (∀ y ∈ M, NxOwn wq w8.heap.size y)) (fun i _ => M.length - (intOf i).toNat)
        case atStart => exact ⟨0, sv8, by omega, rfl, by rw [List.take_zero, List.map_nil, List.append_nil]; exact HF9, HOK, HN⟩
        case round =>
          obtain ⟨j, sw, hj, rfl, HFj, HOj, HNj⟩ := hrel
          by_cases hjl : j < M.length
          · have j2 : ((j : Nat) : Int) < ((M.length : Nat) : Int) := by omega
            have hy := List.getElem?_eq_getElem hjl
            have HYM := hide (List.getElem_mem hjl)
            have HTK : Hid ((M.take (j + 1)).map nvB = (M.take j).map nvB ++ [nvB M[j]]) := hide (by rw [List.take_succ_eq_append_getElem hjl, List.map_append]; rfl)
            have HNE : Hid (∀ (i : Nat) u, (it8 ++ (M.take j).map nvB)[i]? = some u → ∀ q, u.ownBlock = some q → (nvB M[j]).ownBlock ≠ some q) := hide (by
              intro i u hu q hq e
              have hge := (World.ownsRow.lt (unhide HNj M[j] (List.getElem_mem hjl)) q e).1
              by_cases hi : i < it8.length
              · rw [List.getElem?_append_left hi] at hu
                have := unhide HLT i u hu q hq
                omega
              · rw [List.getElem?_append_right (by omega), List.getElem?_map] at hu
                obtain ⟨z, hz, rfl⟩ := Option.map_eq_some_iff.1 hu
                have hzl := (List.getElem?_eq_some_iff.1 hz).1
                rw [List.length_take] at hzl
                rw [List.getElem?_take, if_pos (by omega)] at hz
                obtain ⟨hzl2, hzz⟩ := List.getElem?_eq_some_iff.1 hz
                have := List.pairwise_iff_getElem.1 (unhide HAP) (i - it8.length) j hzl2 hjl (by omega) q
                rw [hzz] at this
                exact this hq e)
            obtain ⟨xa, xc, e, hKj⟩ := (unhide HOj).at (unhide HNj)
            injection e with e1 _ e2
            subst e1 e2
            obtain ⟨bb, boff, rfl, hyb⟩ := hKj j _ hy
            generalize M[j] = y at hy HYM HTK HNE hyb
            obtain ⟨c0, c1, c2, _⟩ := hyb
            have hal : Below wr.heap.size wr (wr.alloc (.cells #[.int .i64 y.fr, .int .i64 y.la, .slice y.no y.nx.length y.nc] 34)) := (Below.refl _ _).alloc (Nat.le_refl _) _
            have n1 := heap_alloc_new wr (.cells #[.int .i64 y.fr, .int .i64 y.la, .slice y.no y.nx.length y.nc] 34)
            have d2 : (wr.alloc (.cells #[.int .i64 y.fr, .int .i64 y.la, .slice y.no y.nx.length y.nc] 34)).cell? ⟨wr.heap.size, 2, none⟩ = some (.slice y.no y.nx.length y.nc) := cell_of_row _ _ 2 _ _ _ n1
            have HFa := hide ((unhide HFj).below hal)
            have HOa : Hid (OwnK (wr.alloc (.cells #[.int .i64 y.fr, .int .i64 y.la, .slice y.no y.nx.length y.nc] 34)) w8.heap.size (.slice (some ⟨bb, boff, none⟩) M.length vc) M) := hide (rowBelowJ (unhide HOj) hal)
            have HNa : Hid (∀ y2 ∈ M, NxOwn (wr.alloc (.cells #[.int .i64 y.fr, .int .i64 y.la, .slice y.no y.nx.length y.nc] 34)) w8.heap.size y2) := hide (fun y2 h2 => (unhide HNj y2 h2).below hal)
            have hjt : ((M.take j).map nvB).length ≤ 4097 := by rw [List.length_map, List.length_take]; omega
            have hit8 : it8.length ≤ 10004 := by have := unhide hil8; omega
            clear hal n1 hy hKj
            go_upto_region 14 with fail
            generalize (wr.alloc (.cells #[.int .i64 y.fr, .int .i64 y.la, .slice y.no y.nx.length y.nc] 34)) = wa at d2 HFa HOa HNa ⊢
            generalize wr.heap.size = gk at d2 ⊢
            clear c0 c1 c2
            have HSh := hide (ShInts (unhide HFa).sh y.no y.nx.length y.nc (by rw [List.length_append]; omega))
            have HA := hide (fun w2 sv' => (unhide HFa).push (w2 := w2) (sv' := sv') (unhide HNa y (unhide HYM)) (by have := unhide HFEW y (unhide HYM); omega) (fun q hq => by have := (World.ownsRow.lt (unhide HNa y (unhide HYM)) q hq).1; omega) (unhide HNE))
            go_wp2_with fail
            refine (unhide HSh).mono ?_
            rintro e wb ⟨rfl, svb, hs, hK, hsv⟩
            have HFb : Hid (FO W1 wb sp svb (it8 ++ (M.take (j + 1)).map nvB)) := hide (by rw [unhide HTK, ← List.append_assoc]; exact unhide HA wb svb hs hK hsv)
            have HOb : Hid (OwnK wb w8.heap.size (.slice (some ⟨bb, boff, none⟩) M.length vc) M) := hide (rowKeepG (unhide HOa) hK ((unhide HFa).sh.rows (unhide HOa) (by decide) (by decide)))
            have HNb : Hid (∀ y2 ∈ M, NxOwn wb w8.heap.size y2) := hide (fun y2 h2 => OwnJ.keep (unhide HNa y2 h2) hK (fun q hq e => by
              have := (unhide HFa).sh.ints (unhide HNa y2 h2)
              rcases e with e | e
              · exact this.1 (by rw [hq, e])
              · exact this.2 q hq e))
            clear hs hK hsv HA HSh d2
            go_wp2
            go_roundw
            case rel => exact ⟨j + 1, svb, by omega, by go_num, HFb, HOb, HNb⟩
            case measure => simp [intOf]; omega
          · obtain rfl : j = M.length := by omega
            rw [List.take_length] at HFj
            have hit9 : Hid ((it8 ++ M.map nvB).length = its.length + 4 + M.length) := hide (by rw [List.length_append, List.length_map, unhide hil8])
            generalize it8 ++ M.map nvB = it9 at HFj hit9
            have HRb := hide (refBlocks_any oa oc l wr ((unhide HX).below (unhide HFj).bel) (by omega))
            clear HOj HNj
            go_wp2_with fail
            refine (unhide HRb).mono ?_
            rintro e wc ⟨v3, M3, rfl, hO3, hN3, hP3, hB3⟩
            obtain ⟨a3, c3, rfl, hK3⟩ := hO3.at hN3
            have hM3 : M3.length ≤ 4097 := by have h1 := congrArg List.length hP3; have := bk_len2 l; simp at h1; omega
            have HMEM : Hid (∀ y ∈ M3, y.pl ∈ bkD l) := hide (fun y hy => by rw [← hP3]; exact List.mem_map_of_mem hy)
            have HFc := hide ((unhide HFj).below hB3)
            have HOr := hide (Order_any a3 c3 M3 wc hK3 (by omega) (fun y hy => by have := bk_nx2 (unhide HMEM y hy); have e : y.pl.2.2 = y.nx := rfl; rw [e] at this; omega) (fun y hy => (bk_bounds (unhide HKO) (unhide HMEM y hy)).1) (fun y hy => (bk_bounds (unhide HKO) (unhide HMEM y hy)).2))
            have hol := lvO_shape (G := M3)
            clear hO3 hN3 hP3 hB3 hK3 HRb HFj
            go_wp2_with fail
            refine (unhide HOr).mono ?_
            rintro e wd ⟨v, rfl, hO, hB⟩
            obtain ⟨ra2, rc2, rfl, _, _⟩ := hO.at
            have hjn : (jn (ordD M3)).length ≤ 10000 := by rw [jn_len]; omega
            have HSh := hide (ShInts ((unhide HFc).below hB).sh ra2 (jn (ordD M3)).length rc2 (by have := unhide hit9; omega))
            have HA := hide (fun w2 sv' => (unhide HFc).add (w2 := w2) (sv' := sv') hB hO (by omega))
            clear hO hB HOr
            go_wp2_with fail
            refine (unhide HSh).mono ?_
            rintro e we ⟨rfl, sve, hs, hK, hsv⟩
            have HFe := hide (unhide HA we sve hs hK hsv)
            have HLe : Hid ((it9 ++ [Value.slice ra2 (jn (ordD M3)).length rc2]).length ≤ (k + 1) * 4102 ∧ (k + 1 = 0 ∨ 0 < (it9 ++ [Value.slice ra2 (jn (ordD M3)).length rc2]).length)) := hide (by
              have h1 := unhide hit9
              have h2 := (unhide HLn).1
              rw [List.length_append, List.length_singleton]
              omega)
            clear hs hK hsv HA HSh HFc
            go_wp2
            go_roundw
            case rel => exact ⟨k + 1, sve, _, by omega, by go_num, HFe, HLe⟩
            case measure => simp [intOf]; omega
      · obtain rfl : k = 2 := by omega
        have hip : 0 < its.length := by have := (unhide HLn).2; omega
        have hil : its.length ≤ 10000 := by have := (unhide HLn).1; omega
        have HOw := hide (Own_yes (unhide HF).sh (unhide HF).itk (unhide HF).apt hip (by omega))
        go_wp2_with fail
        refine (unhide HOw).mono ?_
        rintro e wa ⟨rfl, hK⟩
        have HBa : Hid (Below W1.heap.size W1 wa) := hide (hK.below (unhide HF).bel (unhide HF).bel.size (fun q ⟨u, hu, e⟩ => by
          obtain ⟨i, hi⟩ := List.mem_iff_getElem?.1 hu
          exact (unhide HF).itb i u hi q e))
        clear hK HOw HF HLn
        have HXa := hide ((unhide HX).below (unhide HBa))
        have HRa := hide (Reach_any oa oc l 0 wa (unhide HXa) ((unhide D1).below (unhide HBa)) (by omega) (fun x hx => by have := (unhide HKO x hx).2; omega) (unhide HBD) (by omega))
        go_wp2_with fail
        refine (unhide HRa).mono ?_
        rintro e wb ⟨v, js, rfl, hO, hA, hm, hjl, hB⟩
        obtain ⟨ja, jc, rfl, hJ, _⟩ := hO.at
        have HJ := hide hJ
        have HA1 := hide hA
        have HM1 := hide hm
        have HBb := hide ((unhide HBa).trans (hB.mono (unhide HBa).size))
        have HRb := hide (refReach_any oa oc l 0 wb ((unhide HX).below (unhide HBb)) (by omega))
        clear hO hJ hA hm hB HRa HXa
        go_wp2_with fail
        refine (unhide HRb).mono ?_
        rintro e wc ⟨v, js2, rfl, hO, hA, hm, hB⟩
        obtain rfl : js2 = js := asc_ext hA (unhide HA1) (fun x => (hm x).trans (unhide HM1 x).symm)
        obtain ⟨ja2, jc2, rfl, hJ2, _⟩ := hO.at
        have HBc := hide ((unhide HBb).trans (hB.mono (unhide HBb).size))
        have HE := hide (EqualJ_same (c := jc) (d := jc2) ((unhide HJ).below hB) hJ2 (by omega))
        clear hO hJ2 hA hm hB HRb HJ HA1 HM1 HBa HBb
        go_wp2_with fail
        refine (unhide HE).mono ?_
        rintro e wd ⟨rfl, q, rfl⟩
        have HBd := hide (belowD (unhide HBc) q)
        clear HBc HE
        generalize wc.drewN q = wd at HBd ⊢
        have HTa := hide (Targets_any oa oc l wd ((unhide HX).below (unhide HBd)) (by omega) (unhide HBD))
        have hpl := Nat.le_trans (pts_len (tgs l)) (tgs_len l)
        go_wp2_with fail
        refine (unhide HTa).mono ?_
        rintro e we ⟨v, rfl, hO, hB⟩
        obtain ⟨ta, tc, rfl, hJ, _⟩ := hO.at
        have HJ := hide hJ
        have HBe := hide ((unhide HBd).trans (hB.mono (unhide HBd).size))
        have HTb := hide (refTargets_any oa oc l we ((unhide HX).below (unhide HBe)) (by omega))
        clear hO hJ hB HTa HBd
        go_wp2_with fail
        refine (unhide HTb).mono ?_
        rintro e wf ⟨v, rfl, hO, hB⟩
        obtain ⟨ta2, tc2, rfl, hJ2, _⟩ := hO.at
        have HBf := hide ((unhide HBe).trans (hB.mono (unhide HBe).size))
        have HE := hide (EqualJ_same (c := tc) (d := tc2) ((unhide HJ).below hB) hJ2 (by omega))
        clear hO hJ2 hB HTb HJ HBe
        go_wp2_with fail
        refine (unhide HE).mono ?_
        rintro e wg ⟨rfl, q2, rfl⟩
        have HBg := hide (belowD (unhide HBf) q2)
        clear HBf HE hpl
        generalize wf.drewN q2 = wg at HBg ⊢
        have HBl := hide (Blocks_any oa oc l wg ((unhide HX).below (unhide HBg)) (by omega) ((unhide D1).below (unhide HBg)) (fun x hx => ⟨unhide HBD x hx, by have := (unhide HKO x hx).2; omega⟩))
        go_wp2_with fail
        refine (unhide HBl).mono ?_
        rintro e wh ⟨v2, M2, rfl, hO2, hN2, hP2, hB2⟩
        obtain ⟨a2, c2, rfl, hK2⟩ := hO2.at hN2
        have HK2 := hide hK2
        have HP2 := hide hP2
        have HBh := hide ((unhide HBg).trans (hB2.mono (unhide HBg).size))
        have HRt := hide (refBlocks_any oa oc l wh ((unhide HX).below (unhide HBh)) (by omega))
        clear hO2 hN2 hP2 hB2 hK2 HBl HBg
        go_wp2_with fail
        refine (unhide HRt).mono ?_
        rintro e wi ⟨v3, M3, rfl, hO3, hN3, hP3, hB3⟩
        obtain ⟨a3, c3, rfl, hK3⟩ := hO3.at hN3
        have hM3 : M3.length ≤ 4097 := by have h1 := congrArg List.length hP3; have := bk_len2 l; simp at h1; omega
        have HBi := hide ((unhide HBh).trans (hB3.mono (unhide HBh).size))
        have HEq := hide (SameBlocks_yes a2 a3 c2 c3 M3 M2 wi ((unhide HK2).below hB3) hK3 (by rw [unhide HP2, hP3]) (by omega) (fun y hy => by
          have h1 : y.pl ∈ bkD l := by rw [← hP3]; exact List.mem_map_of_mem hy
          have h2 : y.nx.length ≤ 2 := bk_nx2 h1
          omega))
        clear hO3 hN3 hP3 hB3 hK3 HRt HK2 HP2 HBh
        go_wp2_with fail
        refine (unhide HEq).mono ?_
        rintro e wj ⟨rfl, hB⟩
        go_wp2
        go_ret
        have hb1 := unhide B1
        exact ⟨rfl, hb1.trans (((unhide HBi).trans (hB.mono (unhide HBi).size)).mono hb1.size)⟩
  · have hk' : (er != 0) = true := bne_iff_ne.2 he
    clear he HPA HX HKO HBD
    go_wp2_with fail
    have K0 : Hid (Below W1.heap.size W1 W1.drew) := hide ⟨rfl, rfl, rfl, Nat.le_refl _, fun _ _ => rfl⟩
    refine wp_region_held_drew (S := fun w' => IAt w' w.heap.size p op a b) (by kernel_rfl) (unhide I1) (fun hS => ?_)
    generalize W1.drew = W2 at K0 hS ⊢
    refine wpAnyH_take (i := 0) (v := .agg #[.int .i64 p, .int .u8 (op : Int), .int .i64 a, .int .i64 b]) rfl (by kernel_rfl) (by kernel_rfl) (by kernel_rfl) (fun _ _ _ h => h) (yieldsIf_load_inO (by rfl) _ rfl w.heap.size rfl p op a b (fun _ h => h)) hS ?_
    refine wpAnyH_take (i := 2) (v := .agg #[.int .i64 p, .int .u8 (op : Int), .int .i64 a, .int .i64 b]) rfl (by kernel_rfl) (by kernel_rfl) (by kernel_rfl) (fun _ _ _ h => h) (yieldsIf_load_inO (by rfl) _ rfl w.heap.size rfl p op a b (fun _ h => h)) hS ?_
    refine wpAnyH_ready (rs := [1]) (by kernel_rfl) (by simp) ?_
    refine AllReadyH.cons rfl (fun K hK => ?_) AllReadyH.nil
    go_simp
    go_wp2_with (go_at_call 8; refine (Next_any p op a b _ ((unhide D1).below (unhide K0)) ho).mono ?_; rintro e W2 ⟨v2, rfl, hO2, hB2⟩)
    have K2 := hide ((unhide K0).trans (hB2.mono (unhide K0).size))
    obtain ⟨ao2, ac, rfl, hJ2, _⟩ := hO2.at
    have J2 := hide hJ2
    clear hO2 hJ2 hB2 K0
    refine hK.out _ _ ((unhide I1).below (unhide K2)) (fun hS2 => ?_)
    clear hK K hS
    refine wpAnyH_ready (rs := [3]) (by kernel_rfl) (by simp) ?_
    refine AllReadyH.cons rfl (fun K hK => ?_) AllReadyH.nil
    go_simp
    go_wp2_with (go_at_call 11; refine (refNext_any p op a b _).mono ?_; rintro e W3 ⟨v3, rfl, hO3, hB3⟩)
    have K3 := hide ((unhide K2).trans (hB3.mono (unhide K2).size))
    obtain ⟨bo, bc, rfl, hJ3, _⟩ := hO3.at
    have J3 := hide hJ3
    have J4 := hide ((unhide J2).below hB3)
    clear hO3 hJ3 hB3 K2 J2
    refine hK.out _ _ ((unhide I1).below (unhide K3)) (fun hS3 => ?_)
    clear hK K hS2
    have hn := nextD_len p op a
    obtain ⟨nl, HL⟩ : ∃ l, Hid (nextD p op a = l) := ⟨_, hide rfl⟩
    rw [unhide HL] at J3 J4 hn ⊢
    refine wpAnyH_ready (rs := [4]) (by kernel_rfl) (by simp) ?_
    refine AllReadyH.cons rfl (fun K hK => ?_) AllReadyH.nil
    go_simp
    go_wp2_with (go_at_call 10; refine (EqualJ_same (unhide J4) (unhide J3) (by omega)).mono ?_; rintro e W4 ⟨rfl, q, rfl⟩)
    refine hK.out _ _ ((unhide I1).below (belowD (unhide K3) q)) (fun hS4 => ?_)
    clear hK K hS3
    refine wpAnyH_ready (rs := [5]) (by kernel_rfl) (by simp) ?_
    refine AllReadyH.cons rfl (fun K hK => ?_) AllReadyH.nil
    go_simp
    refine hK.out _ _ hS4 (fun hS5 => ?_)
    refine wpAnyH_done (by kernel_rfl) ?_ _
    go_wp2
    go_ret
    exact ⟨rfl, (unhide B1).trans ((belowD (unhide K3) q).mono (unhide B1).size)⟩
end Go.Proofs.YtdpfinnclnapbaaDoor
