/-
  The contract of the laws' alike: a store and a state of the document that keep the same are told alike. Nothing that lay is turned.
-/
import Derived.Test.YtkcnkfhdbjiggaaSr15
import Derived.Deep.DeepCutAuto
namespace Go.Proofs.Ytkcnkfhdbjiggaa
open Go.RowKit
set_option maxRecDepth 20000

theorem seg_take {l : List UInt8} {k a b : Nat} (hb : b ≤ k) : seg (l.take k) a b = seg l a b := by
  unfold seg
  rw [List.drop_take, List.take_take, Nat.min_eq_left (by omega)]
theorem SameL.take {l : List UInt8} {k : Nat} {K : List Ke} {L : List Rk} (h : SameL l K L) (he : EnK k K) : SameL (l.take k) K L := by
  unfold SameL at h ⊢
  rw [h]
  exact List.map_congr_left (fun e hm => by rw [seg_take (he e hm).2.1])
theorem same_at {I : List UInt8} {K : List Ke} {L : List Rk} (h : SameL I K L) {i : Nat} {x : Rk} (hx : L[i]? = some x) : ∃ e, K[i]? = some e ∧ x.nm = e.nm ∧ x.bs = seg I e.fr e.to := by
  have h1 : (L.map (fun x => (x.nm, x.bs)))[i]? = some (x.nm, x.bs) := by rw [List.getElem?_map, hx]; rfl
  rw [h, List.getElem?_map] at h1
  cases he : K[i]? with
  | none => rw [he] at h1; cases h1
  | some e =>
    rw [he] at h1
    injection h1 with h1
    injection h1 with h2 h3
    exact ⟨e, rfl, h2.symm, h3.symm⟩
theorem pos_self {K : List Ke} (h : Asc (kNm K)) {i : Nat} {e : Ke} (he : K[i]? = some e) : posN (kNm K) e.nm = i ∧ hasN (kNm K) e.nm = true := by
  have hi := (List.getElem?_eq_some_iff.1 (kNm_get he))
  have hi1 := hi.1
  have hp : posN (kNm K) e.nm = i := pos_uniq (by omega) (fun j x hj hx => by
      obtain ⟨b1, b2⟩ := List.getElem?_eq_some_iff.1 hx
      have := List.pairwise_iff_getElem.1 h j i b1 hi.1 hj
      rw [b2, hi.2] at this
      exact this) (fun x hx => by rw [kNm_get he] at hx; injection hx with hx; subst hx; exact lt_irr _)
  refine ⟨hp, ?_⟩
  unfold hasN
  rw [hp, kNm_get he]
  simp
theorem name_le {s : ByteArray} (h : nameB s = true) : s.size ≤ maxLen := by
  unfold nameB at h
  simp only [Bool.and_eq_true, decide_eq_true_eq] at h
  have := h.1.1.2
  unfold maxLen
  omega
set_option maxHeartbeats 8000000 in
theorem alike_yes {w : World} {B B2 g : Nat} {iv kv xi lv : Value} {I : List UInt8} {K : List Ke} {L : List Rk} (H : IsSt w B g iv kv I K) (hI : I.length ≤ 1048576) (hok : OkK K) (he : EnK I.length K) (hx : OwnB w B2 xi I) (hl : OwnR w B2 lv L) (hr : RkOk w L) (hsm : SameL I K L) :
    Calls Try.prog 8 #[.pointer (some ⟨g, 0, none⟩), .agg #[xi, lv]] w fun e w' => e = .returned (.bool true) ∧ Below w.heap.size w w' := by
  obtain ⟨xa, xc, rfl, hxb, hxn, _⟩ := hx.atN
  obtain ⟨la, lc, rfl, hln, hlc1, hlc2, hlat⟩ := hl.at
  have HLl := hide hsm.len
  have jL : (((K.length : Nat) : Int) != ((L.length : Nat) : Int)) = false := by rw [unhide HLl]; simp
  have hfew := hok.few
  have hal : Below w.heap.size w (w.alloc (.cells #[.slice xa I.length xc, .slice la L.length lc] 28)) := (Below.refl _ _).alloc (Nat.le_refl _) _
  have HBX : Hid (Bx (w.alloc (.cells #[.slice xa I.length xc, .slice la L.length lc] 28)) w.heap.size 28 #[.slice xa I.length xc, .slice la L.length lc]) := hide (heap_alloc_new w _)
  have HB := hide hal
  have HS := hide (H.below hal)
  have HX := hide (hxb.below' hal)
  have HLR := hide (hl.below hal)
  have HRK := hide (hr.below hal)
  have HNM := hide (NamesS_any (H.below hal) hok)
  have mixed := mixedS
  clear H hx hl hr hxb hlat hal
  go_enter Try.func8, Try.ntmps8
  go_wp2_with fail
  refine (unhide HNM).mono ?_
  rintro e W1 ⟨nv, rfl, hN, hb1⟩
  have HB1 := hide ((unhide HB).trans (hb1.mono (unhide HB).size))
  have HS1 := hide ((unhide HS).below hb1)
  have HX1 := hide ((unhide HX).below' hb1)
  have HLR1 := hide ((unhide HLR).below hb1)
  have HRK1 := hide ((unhide HRK).below hb1)
  have HBX1 := hide ((unhide HBX).below hb1)
  obtain ⟨na, nc, rfl, hnn, _⟩ := hN.at
  rw [kNm_len]
  have HN := hide hN
  clear hN hb1 hnn HNM HB HS HX HLR HRK HBX
  obtain ⟨bx, hbx⟩ : ∃ bx, bx = w.heap.size := ⟨_, rfl⟩
  rw [← hbx] at HBX1 ⊢
  clear hbx
  go_upto_region 4 with fail
  go_cut [27] (fun s wx => s = .bool false ∧ Hid (Below W1.heap.size W1 wx))
  case first =>
    have HIm := hide (ImageS_any (w := W1.drew) ((unhide HS1).below ⟨rfl, rfl, rfl, Nat.le_refl _, fun _ _ => rfl⟩) hI)
    have y0 : W1.cell? ⟨bx, 0, none⟩ = some (.slice xa I.length xc) := (unhide HBX1).c 0 rfl
    have y1 : W1.cell? ⟨bx, 1, none⟩ = some (.slice la L.length lc) := (unhide HBX1).c 1 rfl
    have y0d : W1.drew.cell? ⟨bx, 0, none⟩ = some (.slice xa I.length xc) := y0
    have HAF : Hid (∀ w1, Below W1.drew.heap.size W1.drew w1 → (w1.cell? ⟨bx, 0, none⟩ = some (.slice xa I.length xc) ∧ w1.cell? ⟨bx, 1, none⟩ = some (.slice la L.length lc)) ∧ BAt w1 xa I ∧ Hid (Below W1.heap.size W1 w1)) := hide (fun w1 hb => by
      have hb' : Below W1.heap.size W1 w1 := ⟨hb.os, hb.tape, hb.output, hb.size, hb.block⟩
      exact ⟨⟨((unhide HBX1).below hb').c 0 rfl, ((unhide HBX1).below hb').c 1 rfl⟩, (unhide HX1).below' hb', hide hb'⟩)
    go_region_with (first | (go_at_call 16; refine (unhide HIm).mono ?_; rintro e w1 ⟨v1, rfl, hO1, hb1⟩; obtain ⟨⟨z0, z1⟩, hxw, HB9⟩ := unhide HAF w1 hb1; obtain ⟨ia, ic, rfl, hib, hin, -⟩ := hO1.atN; have HEq := hide (Equal_any ia xa ic xc I I w1 hib hxw (by unfold maxLen; omega) (by unfold maxLen; omega)); rw [beq_self_eq_true] at HEq; clear hib hin hxw hb1) | (go_at_call 12; refine (unhide HEq).mono ?_; rintro e w2 ⟨rfl, k2, rfl⟩))
    all_goals
      go_wp2_with fail
      go_meet
      case rel => exact ⟨rfl, hide ((unhide HB9).trans ⟨rfl, rfl, rfl, Nat.le_refl _, fun _ _ => rfl⟩)⟩
  case rest =>
    obtain ⟨rfl, HBc⟩ := hcut
    have HB2 := hide ((unhide HB1).trans ((unhide HBc).mono (unhide HB1).size))
    have HS2 := hide ((unhide HS1).below (unhide HBc))
    have HLR2 := hide ((unhide HLR1).below (unhide HBc))
    have HRK2 := hide ((unhide HRK1).below (unhide HBc))
    have HBX2 := hide ((unhide HBX1).below (unhide HBc))
    have HN2 := hide ((unhide HN).below (unhide HBc))
    have y1 := (unhide HBX2).c 1 rfl
    clear HBc HB1 HS1 HX1 HLR1 HRK1 HBX1 HN
    go_wp2_with fail
    go_loopw [31] (fun i wr => ∃ k : Nat, k ≤ L.length ∧ i = .int .i64 (k : Int) ∧ Hid (Below wc.heap.size wc wr)) (fun i _ => L.length - (intOf i).toNat)
    case atStart => exact ⟨0, by omega, rfl, hide (Below.refl _ _)⟩
    case round =>
      obtain ⟨k, hk, rfl, HBr⟩ := hrel
      by_cases hlt : k < L.length
      · have j1 : ((k : Nat) : Int) < ((L.length : Nat) : Int) := by omega
        have j2 : ((k : Nat) : Int) < ((K.length : Nat) : Int) := by have := unhide HLl; omega
        have hx := List.getElem?_eq_getElem hlt
        generalize L[k] = x at hx
        obtain ⟨ke, hke, hnm, hbs⟩ := same_at hsm hx
        obtain ⟨hps, hhs⟩ := pos_self hok.asc hke
        have HP : Hid (posN (kNm K) x.nm = k ∧ hasN (kNm K) x.nm = true ∧ nameB x.nm = true) := hide (by rw [hnm]; exact ⟨hps, hhs, (he ke (List.mem_of_getElem? hke)).2.2.2⟩)
        have HKE := hide hke
        have HBS := hide hbs
        obtain ⟨la', lc', e1, hln', _, _, hlat⟩ := ((unhide HLR2).below (unhide HBr)).at
        injection e1 with e1 e3 e2
        subst e1
        clear e2 e3
        obtain ⟨ad, hla⟩ : ∃ ad, la = some ad := by
          cases la with
          | none => rw [hln' rfl] at hlt; simp at hlt
          | some ad => exact ⟨ad, rfl⟩
        subst hla
        obtain ⟨lb, hlb, hcell⟩ := hlat ad rfl
        subst hlb
        have q0 : wr.cell? ⟨lb, k * 2, none⟩ = some (.string x.nm) := hcell _ _ (rkV_get hx 0 (by omega))
        have q1 : wr.cell? ⟨lb, k * 2 + 1, none⟩ = some (.slice x.ba x.bs.length x.bc) := hcell _ _ (rkV_get hx 1 (by omega))
        have HXR := hide ((unhide HRK2) x (List.mem_of_getElem? hx))
        have HNM : Hid ((kNm K)[k]? = some x.nm) := hide (by rw [hnm]; exact kNm_get hke)
        clear hx hke hnm hbs hps hhs hlat hcell hln'
        have hal : Below wr.heap.size wr (wr.alloc (.cells #[.string x.nm, .slice x.ba x.bs.length x.bc] 73)) := (Below.refl _ _).alloc (Nat.le_refl _) _
        have HBa := hide ((unhide HBr).trans (hal.mono (unhide HBr).size))
        have HG := hide (GetS_any ((unhide HS2).below (unhide HBa)) hI hok he x.nm (name_le (unhide HP).2.2))
        have HBK : Hid (Bx (wr.alloc (.cells #[.string x.nm, .slice x.ba x.bs.length x.bc] 73)) wr.heap.size 73 #[.string x.nm, .slice x.ba x.bs.length x.bc]) := hide (heap_alloc_new wr _)
        clear hal
        go_wp2_with fail
        refine (unhide HG).mono ?_
        rintro e W3 ⟨hb3, hc⟩
        have HB3 := hide ((unhide HBa).trans (hb3.mono (unhide HBa).size))
        have HBK3 := hide ((unhide HBK).below hb3)
        clear hb3 HG q0 q1 HBK HBa
        rcases hc with ⟨rfl, hf⟩ | ⟨rfl, _, hf⟩ | ⟨v, ke', rfl, _, _, hke', hO⟩
        · rw [(unhide HP).2.2] at hf; cases hf
        · rw [(unhide HP).2.1] at hf; cases hf
        · rw [(unhide HP).1, unhide HKE] at hke'
          injection hke' with hke'
          subst hke'
          rw [← unhide HBS] at hO
          obtain ⟨va, vc, rfl, hvb, _, _⟩ := hO.atN
          have HEQ : Hid (∀ n, Calls Try.prog 12 #[.slice va x.bs.length vc, .slice x.ba x.bs.length x.bc] (W3.drewN n) fun e w' => e = .returned (.bool true) ∧ ∃ k, w' = (W3.drewN n).drewN k) := hide (fun n => by
            have hle : x.bs.length ≤ maxLen := by rw [unhide HBS]; have h1 := he ke (List.mem_of_getElem? (unhide HKE)); rw [seg_len h1.1 h1.2.1]; unfold maxLen; omega
            have hxb3 := (unhide HXR).1.below' (unhide HB3)
            have := Equal_any va x.ba vc x.bc x.bs x.bs (W3.drewN n) hvb hxb3 hle hle
            rw [beq_self_eq_true] at this
            exact this)
          obtain ⟨na', nc', e1, _, hnat⟩ := ((unhide HN2).below (unhide HB3)).at
          rw [kNm_len] at e1
          injection e1 with e1 e3 e4
          subst e1
          clear e3 e4
          obtain ⟨nb, hnb, r0⟩ := hnat k _ (unhide HNM)
          subst hnb
          have r1 := (unhide HBK3).c 0 rfl
          have r2 := (unhide HBK3).c 1 rfl
          clear hO hvb hnat
          go_wp2_with fail
          go_quiet ((go_at_call 12; with_reducible exact Calls.quiet_of (unhide HEQ _)))
          go_wp2
          go_roundw
          case rel => exact ⟨k + 1, by omega, by go_num, hide ((unhide HB3).trans ⟨rfl, rfl, rfl, Nat.le_refl _, fun _ _ => rfl⟩)⟩
          case measure => simp [intOf]; omega
      · have j1 : ¬ ((k : Nat) : Int) < ((L.length : Nat) : Int) := by omega
        go_wp2
        go_ret
        exact ⟨rfl, (unhide HB2).trans ((unhide HBr).mono (unhide HB2).size)⟩
end Go.Proofs.Ytkcnkfhdbjiggaa
