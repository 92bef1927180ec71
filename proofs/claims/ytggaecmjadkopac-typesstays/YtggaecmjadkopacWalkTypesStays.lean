/-
  The walk of the law TypesStays: it returns true for every table and every two numbers, and writes nothing that was there.
-/
import Derived.Test.YtggaecmjadkopacStays
namespace Go.Proofs.Ytggaecmjadkopac
open Go.RowKit

/-- A world in which the table lies still. -/
structure TS (w W : World) (ao : Option Addr) (T : List Cl) : Prop where
  tab : TabAt W ao T
  bel : Below w.heap.size w W
theorem TS.below {w W W' : World} {ao : Option Addr} {T : List Cl} (h : TS w W ao T) (hb : Below W.heap.size W W') : TS w W' ao T := ⟨h.tab.below hb, h.bel.trans (hb.mono h.bel.size)⟩
theorem made_32 {T : List Cl} (h : madeD T = true) : T.length ≤ 32 := by
  by_cases h0 : T.length = 0
  · omega
  · have hx := List.getElem?_eq_getElem (show T.length - 1 < T.length by omega)
    have := (faultD_zero hx (madeD_all h _ (by omega))).lt
    omega
theorem u64_bounds {n : Int} (h : (Lit.int .u64 n).wf = true) : 0 ≤ n ∧ n ≤ 18446744073709551615 := by
  simp [Lit.wf, IntKind.min, IntKind.max, IntKind.signed, IntKind.bits] at h
  omega

theorem sub_above {T : List Cl} {c p : Nat} (hc : c < T.length) (hp : p < T.length) : subD T (16 + c) (16 + p) = aboveD T c p := by
  unfold aboveD
  cases h : (lineB T T.length (c : Int)).contains p with
  | true =>
    have hm : p ∈ lineB T T.length (c : Int) := by simpa using h
    refine subD_iff.2 ⟨.inr ⟨by omega, by omega⟩, .inr ⟨by omega, by omega⟩, .inr (.inr (.inr (.inr ⟨by omega, by omega, ?_⟩)))⟩
    rw [show 16 + p - 16 = p from by omega, show 16 + c - 16 = c from by omega]
    exact hm
  | false =>
    have hm : p ∉ lineB T T.length (c : Int) := by simpa using h
    cases hs : subD T (16 + c) (16 + p) with
    | false => rfl
    | true =>
      exfalso
      obtain ⟨_, _, hh⟩ := subD_iff.1 hs
      rcases hh with e | e | ⟨e, _⟩ | ⟨e, _⟩ | ⟨_, _, e⟩
      · have : c = p := by omega
        subst this
        exact hm (line_refl hc)
      · omega
      · omega
      · omega
      · rw [show 16 + p - 16 = p from by omega, show 16 + c - 16 = c from by omega] at e
        exact hm e

set_option maxHeartbeats 4000000 in
theorem walkTypesStays {w : World} (ao : Option Addr) (cap : Nat) (T : List Cl) (hT : TabAt w ao T) (hz : T.length * 48 ≤ 140737488351232) (a : Int) (wa : (Lit.int .u64 a).wf = true) (b : Int) (wb : (Lit.int .u64 b).wf = true) :
    Calls Try.prog 5 #[.slice ao T.length cap, .int .u64 a, .int .u64 b] w fun e w' => e = .returned (.bool true) ∧ Below w.heap.size w w' := by
  have HZ := hide hz
  have H0 : Hid (TS w w ao T) := hide ⟨hT, Below.refl _ _⟩
  have ha := u64_bounds wa
  have hb := u64_bounds wb
  clear hT hz wa wb
  go_enter Try.func5, Try.ntmps5
  go_wp2_with fail
  refine (Made_any ao cap T _ (unhide H0).tab (unhide HZ)).mono ?_
  rintro e w1 ⟨rfl, hB⟩
  have H1 := hide ((unhide H0).below hB)
  clear hB H0
  by_cases hm : madeD T = true
  · have HM := hide hm
    have h32 := made_32 hm
    rw [hm]
    clear hm
    by_cases h0 : T.length = 0
    · have e0 : (((T.length : Nat) : Int) == 0) = true := beq_t (by omega)
      clear h0 h32
      go_wp2
      go_ret
      exact ⟨rfl, (unhide H1).bel⟩
    · have e0 : (((T.length : Nat) : Int) == 0) = false := beq_f (by omega)
      have hpos : 0 < T.length := by omega
      have ea : a.tmod (T.length : Int) = ((a % (T.length : Int)).toNat : Int) := by
        rw [Int.tmod_eq_emod_of_nonneg ha.1]
        have := Int.emod_nonneg a (show ((T.length : Nat) : Int) ≠ 0 by omega)
        omega
      have eb : b.tmod (T.length : Int) = ((b % (T.length : Int)).toNat : Int) := by
        rw [Int.tmod_eq_emod_of_nonneg hb.1]
        have := Int.emod_nonneg b (show ((T.length : Nat) : Int) ≠ 0 by omega)
        omega
      have hp : (a % (T.length : Int)).toNat < T.length := by
        have := Int.emod_lt_of_pos a (show (0 : Int) < ((T.length : Nat) : Int) by omega)
        have := Int.emod_nonneg a (show ((T.length : Nat) : Int) ≠ 0 by omega)
        omega
      have hc : (b % (T.length : Int)).toNat < T.length := by
        have := Int.emod_lt_of_pos b (show (0 : Int) < ((T.length : Nat) : Int) by omega)
        have := Int.emod_nonneg b (show ((T.length : Nat) : Int) ≠ 0 by omega)
        omega
      generalize (a % (T.length : Int)).toNat = p at ea hp
      generalize (b % (T.length : Int)).toNat = c at eb hc
      clear h0
      go_wp2
      go_quiet (fail)
      have H2 := hide ((unhide H1).below (below_drew w1 nq))
      generalize World.drewN w1 nq = w2 at H2 ⊢
      clear H1 ea eb ha hb
      go_wp2_with fail
      refine (above_any ao cap T c p _ (unhide H2).tab (unhide HM) hc).mono ?_
      rintro e w3 ⟨rfl, rfl⟩
      have HSA := hide (sub_above hc hp)
      have hS := fun W hW => Sub_any ao cap T (16 + c) (16 + p) W hW (by omega) (by omega)
      rw [unhide HSA, show (((16 + c : Nat)) : Int) = 16 + (c : Int) from by omega, show (((16 + p : Nat)) : Int) = 16 + (p : Int) from by omega] at hS
      have HS := hide hS
      clear hS HSA
      by_cases hab : aboveD T c p = true
      · have HLi : Hid (p ∈ lineB T T.length (c : Int)) := hide (by unfold aboveD at hab; simpa using hab)
        rw [hab] at HS ⊢
        clear hab
        have HFp := hide (fieldsB_le (unhide HM) (show ((p : Nat) : Int) < (T.length : Int) by omega))
        have HFc := hide (fieldsB_le (unhide HM) (show ((c : Nat) : Int) < (T.length : Int) by omega))
        have HNm := hide (made_names (unhide HM) _ ((c : Nat) : Int) (by omega) (Nat.le_refl _))
        have HOp := hide (fieldsB_ok (unhide H2).tab ((p : Nat) : Int))
        have HOc := hide (fieldsB_ok (unhide H2).tab ((c : Nat) : Int))
        go_wp2_with fail
        refine (Fields_any ao cap T (p : Int) _ (unhide H2).tab (unhide HZ) (by have := unhide HFp; omega)).mono ?_
        rintro e w4 ⟨fv, rfl, hOf, hB⟩
        have H4 := hide ((unhide H2).below hB)
        clear hB H2
        go_wp2_with fail
        refine (Fields_any ao cap T (c : Int) _ (unhide H4).tab (unhide HZ) (by have := unhide HFc; omega)).mono ?_
        rintro e w5 ⟨gv, rfl, hOg, hB⟩
        have H5 := hide ((unhide H4).below hB)
        have hOf5 : OwnF w5 w3.heap.size fv (fieldsB T (p : Int)) := rowBelow hOf hB
        clear hB H4 hOf
        obtain ⟨rest, hrest⟩ := fields_prefix (unhide HLi)
        have HCs : Hid ((fsD T c).length ≤ (fieldsB T (c : Int)).length) := hide (by rw [fieldsB_step (unhide HM) hc, List.length_append]; omega)
        have HFi : Hid (∀ W, TabAt W ao T → ∀ s, Calls Try.prog 13 #[.slice ao T.length cap, .int .i64 (c : Int), .string s] W fun e w' => e = .returned (findV (findD (fieldsB T (c : Int)) s 0)) ∧ Below W.heap.size W w') := hide (fun W hW s => Find_any ao cap T (c : Int) s W hW (unhide HZ) (by have := unhide HFc; omega))
        obtain ⟨G, HG⟩ : ∃ G, Hid (fieldsB T (c : Int) = G) := ⟨_, hide rfl⟩
        obtain ⟨Fp, HFF⟩ : ∃ Fp, Hid (fieldsB T (p : Int) = Fp) := ⟨_, hide rfl⟩
        rw [unhide HG] at hrest HFi HFc HNm HOc hOg HCs
        rw [unhide HFF] at hrest HFp HOp hOf5
        have HRe := hide hrest
        obtain ⟨fa, fc, rfl, hFs, _, _⟩ := hOf5.at (unhide HOp)
        obtain ⟨ga, gc, rfl, hGs, _, _⟩ := hOg.at (unhide HOc)
        have hle : Fp.length ≤ G.length := by rw [hrest, List.length_append]; omega
        have hG32 : G.length ≤ 32 := unhide HFc
        have hFs' := hide hFs
        have hGs' := hide hGs
        clear hrest hFs hGs hOf5 hOg HFp HFc HOp HOc HG HFF HLi
        go_wp2_with fail
        refine (unhide HS _ (unhide H5).tab).mono ?_
        rintro e w6 ⟨rfl, hB⟩
        have H6 := hide ((unhide H5).below hB)
        have HFs := hide ((unhide hFs').below hB)
        have HGs := hide ((unhide hGs').below hB)
        clear hB H5 hFs' hGs' HS
        obtain ⟨tb, toff, rfl, _, hTC⟩ := (unhide H6).tab.head (by omega)
        have d2 := (hTC c _ (List.getElem?_eq_getElem hc)).c2
        have hfs := fsD_at (List.getElem?_eq_getElem hc)
        rw [hfs] at HCs
        have hcs : T[c].fs.length ≤ G.length := unhide HCs
        generalize T[c].fs.length = nf at d2 hcs
        generalize T[c].fo = fo at d2
        generalize T[c].fc = fcc at d2
        have g1 : ¬ ((Fp.length : Nat) : Int) > ((G.length : Nat) : Int) := by omega
        have g2 : ¬ ((G.length : Nat) : Int) < ((nf : Nat) : Int) := by omega
        have i1 : ((c : Nat) : Int) < ((T.length : Nat) : Int) := by omega
        have q3 : decide (G.length < Fp.length) = false := decide_eq_false (by omega)
        have q4 : decide (G.length < nf) = false := decide_eq_false (by omega)
        clear hTC hfs HCs
        go_wp2
        clear d2 g1 g2 q3 q4
        go_loopw [85] (fun i wr => ∃ k : Nat, k ≤ Fp.length ∧ i = .int .i64 (k : Int) ∧ Hid (Below w6.heap.size w6 wr)) (fun i _ => Fp.length - (intOf i).toNat)
        case atStart => exact ⟨0, by omega, rfl, hide (Below.refl _ _)⟩
        case round =>
          obtain ⟨k, hk, rfl, HB⟩ := hrel
          by_cases hlt : k < Fp.length
          · have j1 : ((k : Nat) : Int) < ((Fp.length : Nat) : Int) := by omega
            have j2 : ((k : Nat) : Int) < ((G.length : Nat) : Int) := by omega
            have hx := List.getElem?_eq_getElem hlt
            have hgx : G[k]? = some Fp[k] := by rw [unhide HRe, List.getElem?_append_left hlt]; exact hx
            obtain ⟨xb, xoff, rfl, hxa⟩ := (unhide HFs).below (unhide HB) k _ hx
            have d0 := hxa.c0
            have d1 := hxa.c1
            have HFd : Hid (findD G Fp[k].nm 0 = some (k, Fp[k].ty)) := hide (by
              have := findD_at G k 0 _ hgx (fun j hj g hg => unhide HNm j k g _ hg hgx hj)
              rw [this]
              simp)
            have HGk : Hid (∀ W, FsAt W ga G → ∃ gb goff, ga = some ⟨gb, goff, none⟩ ∧ FlAt W gb (goff + k * 2) Fp[k]) := hide (fun W hW => hW k _ hgx)
            have hty := hxa.ty
            generalize Fp[k] = x at d0 d1 HFd HGk hty
            clear hx hgx hxa
            go_wp2_with fail
            obtain ⟨FB, HFB⟩ : ∃ FB, Hid (wr.heap.size = FB) := ⟨_, hide rfl⟩
            obtain ⟨w7, HW7⟩ : ∃ w7, Hid (wr.alloc (Obj.cells #[Value.string x.nm, Value.int IntKind.u8 (x.ty : Int)] 39) = w7) := ⟨_, hide rfl⟩
            have hB7 : Below wr.heap.size wr w7 := by rw [← unhide HW7]; exact (Below.refl _ _).alloc (Nat.le_refl _) _
            have hrow : w7.heap[FB]? = some (.cells #[Value.string x.nm, Value.int IntKind.u8 (x.ty : Int)] 39) := by rw [← unhide HW7, ← unhide HFB]; exact heap_alloc_new wr _
            have HB7 : Hid (Below w6.heap.size w6 w7) := hide ((unhide HB).trans (hB7.mono (unhide HB).size))
            rw [unhide HW7, unhide HFB]
            clear HW7 HFB hB7 HB d0 d1
            refine (unhide HFi _ ((unhide H6).tab.below (unhide HB7)) x.nm).mono ?_
            rintro e w8 ⟨rfl, hB8⟩
            rw [unhide HFd]
            have HB8 : Hid (Below w6.heap.size w6 w8) := hide ((unhide HB7).trans (hB8.mono (unhide HB7).size))
            have hfb : FB < w7.heap.size := (Array.getElem?_eq_some_iff.1 hrow).1
            have hrow8 : w8.heap[FB]? = some (.cells #[Value.string x.nm, Value.int IntKind.u8 (x.ty : Int)] 39) := (hB8.block FB hfb).trans hrow
            have f0 : w8.cell? ⟨FB, 0, none⟩ = some (.string x.nm) := by rw [cell_of_row _ _ _ _ _ _ hrow8]; rfl
            have f1 : w8.cell? ⟨FB, 1, none⟩ = some (.int .u8 (x.ty : Int)) := by rw [cell_of_row _ _ _ _ _ _ hrow8]; rfl
            obtain ⟨gb, goff, rfl, hgf⟩ := unhide HGk _ ((unhide HGs).below (unhide HB8))
            have q0 := hgf.c0
            have q1 := hgf.c1
            have e1 : (((k : Nat) : Int) != ((k : Nat) : Int)) = false := by simp
            have e2 : (((x.ty : Nat) : Int) != ((x.ty : Nat) : Int)) = false := by simp
            clear hB8 hrow hrow8 hgf HB7 HFd hfb
            unfold findV
            go_wp2
            go_quiet (fail)
            go_wp2
            go_roundw
            case rel => exact ⟨k + 1, by omega, by go_num, hide (belowD (unhide HB8) _)⟩
            case measure => simp [intOf]; omega
          · have j1 : ¬ ((k : Nat) : Int) < ((Fp.length : Nat) : Int) := by omega
            go_wp2
            go_ret
            exact ⟨rfl, (unhide H6).bel.trans ((unhide HB).mono (unhide H6).bel.size)⟩
      · have hab' : aboveD T c p = false := by simpa using hab
        rw [hab'] at HS ⊢
        clear hab hab'
        go_wp2_with fail
        refine (unhide HS _ (unhide H2).tab).mono ?_
        rintro e w4 ⟨rfl, hB⟩
        have H4 := hide ((unhide H2).below hB)
        clear hB H2
        go_wp2
        go_ret
        exact ⟨rfl, (unhide H4).bel⟩
  · have hm' : madeD T = false := by simpa using hm
    rw [hm']
    clear hm hm'
    go_wp2
    go_ret
    exact ⟨rfl, (unhide H1).bel⟩
end Go.Proofs.Ytggaecmjadkopac
