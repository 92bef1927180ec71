/-
  The walk of the law WireOwn: it returns true for every row of bytes and every number, and writes nothing that was there.
-/
import Derived.Test.YtggaecmjadkopabSit
import Derived.Test.YtggaecmjadkopabGrow
import Derived.Test.YtggaecmjadkopabTake
import Derived.Test.YtggaecmjadkopabPick
namespace Go.Proofs.Ytggaecmjadkopab
open Go.RowKit

theorem takeL_first (l : List UInt8) (k : Nat) (hk : k < l.length + 1) : takeL l 0 (k : Int) = l.take k := by
  unfold takeL
  rw [if_neg (by omega), if_neg (by omega)]
  simp
theorem takeK_first (l : List UInt8) (k : Nat) (hk : k < l.length + 1) : takeK l 0 (k : Int) = k := by
  unfold takeK
  rw [if_neg (by omega), if_neg (by omega)]
  simp
theorem takeL_rest (l : List UInt8) (k : Nat) (hk : k < l.length + 1) : takeL l k ((l.length : Int) - (k : Int)) = l.drop k := by
  unfold takeL
  rw [if_neg (by omega), if_neg (by omega)]
  rw [List.take_of_length_le (by simp)]
theorem own_slice {w : World} {B : Nat} {v : Value} {l : List UInt8} (h : OwnB w B v l) : ∃ ao n c, v = .slice ao n c := by
  obtain ⟨ao, c, e, _⟩ := h.at
  exact ⟨ao, _, c, e⟩

set_option maxHeartbeats 8000000 in
theorem walkWireOwn {w : World} (ao : Option Addr) (cap : Nat) (l : List UInt8) (h : BAt w ao l) (hn : ao = none → l = []) (hb : l.length ≤ 140737488351232) (n : Int) (_hn : (Lit.int .i64 n).wf = true) :
    Calls Try.prog 3 #[.slice ao l.length cap, .int .i64 n] w fun e w' => e = .returned (.bool true) ∧ Below w.heap.size w w' := by
  have hk := pickN_lt n (l.length + 1) (by omega)
  have hP := fun w => pick_any n (l.length + 1) w (by omega) (by omega)
  rw [show (((l.length + 1 : Nat) : Int)) = (l.length : Int) + 1 from by omega] at hP
  generalize pickN n (l.length + 1) = k at hk hP
  have HP := hide hP
  have HB := hide hb
  have H := hide h
  have hb' : l.length < 9223372036854775807 := by omega
  clear hP hb h
  go_enter Try.func3, Try.ntmps3
  go_wp2_with fail
  obtain ⟨w0, HW0⟩ : ∃ w0, Hid (w0 = w.alloc (.cells #[.slice none 0 0, .slice none 0 0] 27)) := ⟨_, hide rfl⟩
  obtain ⟨sp, HSP⟩ : ∃ sp, Hid (sp = w.heap.size) := ⟨_, hide rfl⟩
  have hS0 : Sh w0 sp (.slice none 0 0) [] := by
    rw [unhide HW0, unhide HSP]
    exact ⟨heap_alloc_new w _, World.ownsRow_nil _ _ _ _⟩
  have hB0 : Below w.heap.size w w0 := by rw [unhide HW0]; exact (Below.refl _ _).alloc (Nat.le_refl _) _
  have hsp : w.heap.size ≤ sp := by rw [unhide HSP]; exact Nat.le_refl _
  rw [← unhide HW0, ← unhide HSP]
  clear HW0 HSP
  have H0 := hide ((unhide H).below' hB0)
  refine (Clone_any ao cap l _ (unhide H0) hn (by have := unhide HB; omega)).mono ?_
  rintro e w1 ⟨v1, rfl, hown, hb1, _⟩
  obtain ⟨ao1, cap1, rfl, hbat⟩ := hown.at
  have hB1 : Below w.heap.size w w1 := hB0.trans (hb1.mono hB0.size)
  have hS1 := hS0.below hb1
  clear hown hB0 hS0 hb1 H0
  go_wp2_with fail
  refine (Over_any ao1 cap1 l _ hbat (by have := unhide HB; omega)).mono ?_
  rintro e w2 ⟨p, g, rfl, hp, hg, hR, hb2⟩
  have hB2 : Below w.heap.size w w2 := hB1.trans (hb2.mono hB1.size)
  have hS2 := hS1.below hb2
  have hp' : w.heap.size ≤ p := Nat.le_trans hB1.size hp
  clear hb2 hB1 hS1 hbat hp hg
  go_wp2_with fail
  refine (New_any _).mono ?_
  rintro e w3 ⟨rfl, hW, hb3⟩
  obtain ⟨wp, HWP⟩ : ∃ wp, Hid (wp = w2.heap.size) := ⟨_, hide rfl⟩
  rw [← unhide HWP] at hW
  have hwp : w.heap.size ≤ wp := by rw [unhide HWP]; exact hB2.size
  have hpw : p ≠ wp := by rw [unhide HWP]; exact Nat.ne_of_lt hR.pl
  rw [← unhide HWP]
  have hB3 : Below w.heap.size w w3 := hB2.trans (hb3.mono hB2.size)
  have hS3 := hS2.below hb3
  have hR3 := hR.below hb3
  clear hb3 hB2 hS2 hR HWP
  have hpn : ((Option.some (⟨p, 0, none⟩ : Addr)) == none) = false := rfl
  go_wp2_with fail
  refine (unhide HP _).mono ?_
  rintro e w4 ⟨rfl, rfl⟩
  have hk2 : ((k : Nat) : Int) < (l.length : Int) + 1 := by omega
  have hps : p ≠ sp := by
    intro e
    have := hR3.row
    rw [e, hS3.box] at this
    simp at this
  have hSit : Sit w w4 sp (.slice none 0 0) [] wp (.slice none 0 0) [] := ⟨hS3, fun i v hv => (by simp at hv), fun i j a b ha => (by simp at ha), hW, fun k e => (by cases e), hsp, fun k e => (by cases e), fun k hk => (by obtain ⟨v, hv, _⟩ := hk; simp at hv), hwp, fun k e => (by cases e), hB3⟩
  clear hS3 hW hB3 hsp hwp HP
  -- the two parts
  go_wp2_with fail
  refine (Take_u hR3 (k : Int)).mono ?_
  rintro e w5 ⟨fv, rfl, hF, hR5, hG5⟩
  rw [takeL_first l k hk] at hF
  rw [takeK_first l k hk] at hR5
  have hkp : ∀ {a b : World}, a.grownBy b (some p) → Sit w a sp (.slice none 0 0) [] wp (.slice none 0 0) [] → Sit w b sp (.slice none 0 0) [] wp (.slice none 0 0) [] := fun {a b} hG hs =>
    ⟨hs.sh.keep (Kept.of_grown hG) (fun e => hps (by injection e with e; exact e.symm)) (fun k e => by cases e), fun i v hv => (by simp at hv), hs.ap, hs.wr.keep (Kept.of_grown hG) (fun k hk e => by
      injection e with e
      rcases hk with hk | hk
      · exact hpw (by rw [← e, hk])
      · cases hk), hs.wi, hs.osp, hs.osv, hs.oit, hs.op, hs.ov, hs.bel.grown hG hs.bel.size (fun k e => by cases e; exact hp')⟩
  have hSit5 := hkp hG5 hSit
  have hs4 := hSit.bel.size
  clear hSit hR3 hG5
  go_wp2_with fail
  refine (Take_u hR5 ((l.length : Int) - (k : Int))).mono ?_
  rintro e w6 ⟨rv, rfl, hT, hR6, hG6⟩
  rw [takeL_rest l k hk] at hT
  have hSit6 := hkp hG6 hSit5
  have hs5 := hSit5.bel.size
  have hrow := hR5.row
  have hF6 : OwnB w6 w4.heap.size fv (l.take k) := hF.keep (Kept.of_grown hG6) (fun x hx e => by
    injection e with e
    obtain ⟨c, hc⟩ := rowType hF x hx
    rw [e, hR5.row] at hc
    simp at hc)
  have HFR : Hid (∀ k, fv.ownBlock = some k → rv.ownBlock ≠ some k) := hide (fun k e1 e2 => by
    have h1 := hF.block_lt e1
    have h2 := (World.ownsRow.lt hT k e2).1
    omega)
  have HFW : Hid (∀ k, fv.ownBlock = some k → w.heap.size ≤ k) := hide (fun k e => by have := (World.ownsRow.lt hF k e).1; omega)
  have HRW : Hid (∀ k, rv.ownBlock = some k → w.heap.size ≤ k) := hide (fun k e => by have := (World.ownsRow.lt hT k e).1; omega)
  obtain ⟨a1, n1, c1, rfl⟩ := own_slice hF6
  obtain ⟨a2, n2, c2, rfl⟩ := own_slice hT
  have hF0 := hF6.mono (Nat.zero_le _)
  have hT0 := hT.mono (Nat.zero_le _)
  clear hSit5 hR5 hG6 hR6 hrow hF hF6 hT hkp hs4 hs5 hpw hps hp' hpn hk2
  have hlen : (l.take k).length ≤ 140737488351232 := by have := unhide HB; simp; omega
  have hlen2 : (l.drop k).length ≤ 140737488351232 := by have := unhide HB; simp; omega
  have HLa := hide hlen
  have HLb := hide hlen2
  clear hlen hlen2
  -- one behind the other
  have hba : Below w6.heap.size w6 (w6.alloc (.cells #[.slice a1 n1 c1, .slice a2 n2 c2] 22)) := (Below.refl _ _).alloc (Nat.le_refl _) _
  have hrw := heap_alloc_new w6 (.cells #[.slice a1 n1 c1, .slice a2 n2 c2] 22)
  have HC := hide (Concat_two (hF0.below hba) (hT0.below hba) (by rw [cell_of_row _ _ 0 _ _ _ hrw]; rfl) (by rw [cell_of_row _ _ 1 _ _ _ hrw]; rfl) (by have := unhide HB; simp; omega))
  rw [List.take_append_drop] at HC
  clear hrw
  go_wp2_with fail
  refine (unhide HC).mono ?_
  rintro e w7 ⟨cv, rfl, hC, hb7⟩
  have hB7 : Below w6.heap.size w6 w7 := hba.trans (hb7.mono hba.size)
  have hSit7 := hSit6.below hB7
  have hF7 := hF0.below hB7
  have hT7 := hT0.below hB7
  obtain ⟨a3, c3, rfl, hbat3⟩ := hC.at
  have hl7 : BAt w7 ao l := (unhide H).below' hSit7.bel
  clear hSit6 hF0 hT0 hba hb7 HC hB7 hC
  go_wp2_with fail
  refine (Equal_any a3 ao c3 cap l l _ hbat3 hl7 (by have := unhide HB; unfold maxLen; omega) (by have := unhide HB; unfold maxLen; omega)).mono ?_
  rintro e w8 ⟨rfl, j1, rfl⟩
  have hll : (l == l) = true := by simp
  have hbd := below_drewN w7 j1
  have hSit8 := hSit7.below hbd
  have hF8 := hF7.below hbd
  have hT8 := hT7.below hbd
  clear hSit7 hF7 hT7 hbd hbat3 hl7
  generalize World.drewN _ j1 = w8 at hSit8 hF8 hT8 ⊢
  -- both on the shelf
  go_wp2_with fail
  refine (ShBytes hSit8.sh a1 n1 c1 (by simp)).mono ?_
  rintro e w9 ⟨rfl, sv9, hS9, hK9, hN9⟩
  have hSit9 := hSit8.push hK9 hS9 hN9 hF8 (unhide HLa) (fun k e => ⟨fun ⟨v, hv, _⟩ => (by simp at hv), fun e => (by cases e), unhide HFW k e⟩)
  have hT9 := hSit8.pend hK9 hT8
  clear hSit8 hF8 hT8 hK9 hS9 hN9
  rw [List.nil_append] at hSit9
  go_wp2_with fail
  refine (ShBytes hSit9.sh a2 n2 c2 (by simp)).mono ?_
  rintro e w10 ⟨rfl, sv10, hS10, hK10, hN10⟩
  have hSit10 := hSit9.push hK10 hS10 hN10 hT9 (unhide HLb) (fun k e => ⟨fun ⟨v, hv, e'⟩ => (by
    simp at hv
    subst hv
    exact unhide HFR k e' e), fun e => (by cases e), unhide HRW k e⟩)
  clear hSit9 hT9 hK10 hS10 hN10 HFR HFW HRW HLa HLb
  rw [List.cons_append, List.nil_append] at hSit10
  have hl10 : BAt w10 ao l := (unhide H).below' hSit10.bel
  go_wp2_with fail
  refine (Clone_any ao cap l _ hl10 hn (by have := unhide HB; omega)).mono ?_
  rintro e w11 ⟨gv, rfl, hO11, hb11, _⟩
  have hSit11 := hSit10.below hb11
  have HGN : Hid (∀ k, gv.ownBlock = some k → ¬ InIts [.slice a1 n1 c1, .slice a2 n2 c2] k ∧ w.heap.size ≤ k) := hide (fun k e => by
    have h1 := (World.ownsRow.lt hO11 k e).1
    have h2 := hSit10.bel.size
    exact ⟨fun hi => by have := hSit10.lt k hi; omega, by omega⟩)
  have hO11' := hO11.mono (Nat.zero_le _)
  obtain ⟨a4, n4, c4, rfl⟩ := own_slice hO11
  clear hSit10 hO11 hb11 hl10
  -- put
  go_wp2_with fail
  refine (Put_u hSit11.wr _ l hO11'.src (by have := unhide HB; omega)).mono ?_
  rintro e w12 ⟨rfl, wv, hW12, hK12, hN12⟩
  have hSit12 := hSit11.put hW12 hK12 hN12
  have hO12 := OwnB.put hSit11.wr hO11' hK12 (fun k _ e => by cases e)
  have HGV : Hid (∀ k, (Value.slice a4 n4 c4).ownBlock = some k → wv.ownBlock ≠ some k) := hide (fun k e1 e2 => by
    rcases hN12 k e2 with e | e
    · cases e
    · have := hO11'.block_lt e1; omega)
  clear hSit11 hO11' hW12 hK12 hN12
  generalize jL [] l = L at hSit12
  go_wp2_with fail
  refine (fresh_any ao cap l _ (by have := unhide HB; omega)).mono ?_
  rintro e w13 ⟨rfl, rfl⟩
  have hjj : (jE [] l != jE [] l) = false := by simp
  generalize jE [] l = J at hjj ⊢
  have HLl : Hid (l.length ≤ 140737488351232) := HB
  go_wp2_with fail
  refine (ShBytes hSit12.sh a4 n4 c4 (by simp)).mono ?_
  rintro e w14 ⟨rfl, sv14, hS14, hK14, hN14⟩
  have hSit14 := hSit12.push hK14 hS14 hN14 hO12 (unhide HB) (fun k e => ⟨(unhide HGN k e).1, unhide HGV k e, (unhide HGN k e).2⟩)
  clear hSit12 hO12 hK14 hS14 hN14 HGN HGV
  rw [List.cons_append, List.cons_append, List.nil_append] at hSit14
  generalize hits : [Value.slice a1 n1 c1, Value.slice a2 n2 c2, Value.slice a4 n4 c4] = its at hSit14
  have hil : its.length = 3 := by rw [← hits]; rfl
  clear hits
  have hLL : L.length ≤ 1048576 := hSit14.wr.len
  -- what the writer tells, twice
  go_wp2_with fail
  refine (Bytes_any hSit14.wr).mono ?_
  rintro e w15 ⟨rfl, hO15, hb15⟩
  have hSit15 := hSit14.below hb15
  have HN15 : Hid (∀ k, some w14.heap.size = some k → ¬ InIts its k ∧ wv.ownBlock ≠ some k ∧ w.heap.size ≤ k) := hide (fun k e => by
    injection e with e
    have h2 := hSit14.bel.size
    exact ⟨fun hi => by have := hSit14.lt k hi; omega, fun e' => by have := hSit14.vlt k e'; omega, by omega⟩)
  have hlt15 : w14.heap.size < w15.heap.size := hO15.block_lt rfl
  have hO15' := hO15.mono (Nat.zero_le _)
  generalize w14.heap.size = b1 at hO15' HN15 hlt15 ⊢
  clear hSit14 hO15 hb15
  go_wp2_with fail
  refine (Bytes_any hSit15.wr).mono ?_
  rintro e w16 ⟨rfl, hO16, hb16⟩
  have hSit16 := hSit15.below hb16
  have HN16 : Hid (∀ k, some w15.heap.size = some k → ¬ InIts (its ++ [.slice (some ⟨b1, 0, none⟩) L.length L.length]) k ∧ wv.ownBlock ≠ some k ∧ w.heap.size ≤ k) := hide (fun k e => by
    injection e with e
    have h2 := hSit15.bel.size
    refine ⟨fun ⟨v, hv, e'⟩ => ?_, fun e' => by have := hSit15.vlt k e'; omega, by omega⟩
    rw [List.mem_append] at hv
    rcases hv with hv | hv
    · have := hSit15.lt k ⟨v, hv, e'⟩; omega
    · simp at hv
      subst hv
      injection e' with e'
      have : b1 = k := e'
      omega)
  have hO15'' := hO15'.below hb16
  have hO16' := hO16.mono (Nat.zero_le _)
  generalize w15.heap.size = b2 at hO16' HN16 ⊢
  clear hSit15 hO15' hO16 hb16 hlt15
  have hba1 : BAt w16 (some ⟨b1, 0, none⟩) L := by
    rcases hO15''.shape with ⟨e, _⟩ | ⟨g', cap', hv, _, _, _, _, hbt⟩
    · cases e
    · injection hv with hv; injection hv with hv; injection hv with hv; subst hv; exact hbt
  have hba2 : BAt w16 (some ⟨b2, 0, none⟩) L := by
    rcases hO16'.shape with ⟨e, _⟩ | ⟨g', cap', hv, _, _, _, _, hbt⟩
    · cases e
    · injection hv with hv; injection hv with hv; injection hv with hv; subst hv; exact hbt
  have HLL := hide hLL
  go_wp2_with fail
  refine (Equal_any (some ⟨b1, 0, none⟩) (some ⟨b2, 0, none⟩) L.length L.length L L _ hba1 hba2 (by unfold maxLen; omega) (by unfold maxLen; omega)).mono ?_
  rintro e w17 ⟨rfl, j2, rfl⟩
  have hll2 : (L == L) = true := by simp
  have hbd := below_drewN w16 j2
  have hSit17 := hSit16.below hbd
  have hO17a := hO15''.below hbd
  have hO17b := hO16'.below hbd
  clear hSit16 hO15'' hO16' hbd hba1 hba2
  generalize World.drewN _ j2 = w17 at hSit17 hO17a hO17b ⊢
  go_wp2_with fail
  refine (ShBytes hSit17.sh (some ⟨b1, 0, none⟩) L.length L.length (by omega)).mono ?_
  rintro e w18 ⟨rfl, sv18, hS18, hK18, hN18⟩
  have hSit18 := hSit17.push hK18 hS18 hN18 hO17a (by omega) (fun k e => unhide HN15 k e)
  have hO18a := hSit17.pend hK18 hO17a
  have hO18b := hSit17.pend hK18 hO17b
  clear hSit17 hO17a hO17b hK18 hS18 hN18 HN15
  go_wp2_with fail
  refine (ShBytes hSit18.sh (some ⟨b2, 0, none⟩) L.length L.length (by simp; omega)).mono ?_
  rintro e w19 ⟨rfl, sv19, hS19, hK19, hN19⟩
  have hSit19 := hSit18.push hK19 hS19 hN19 hO18b (by omega) (fun k e => unhide HN16 k e)
  have hO19a := hSit18.pend hK19 hO18a
  clear hSit18 hO18a hO18b hK19 hS19 hN19 HN16
  have hba3 : BAt w19 (some ⟨b1, 0, none⟩) L := by
    rcases hO19a.shape with ⟨e, _⟩ | ⟨g', cap', hv, _, _, _, _, hbt⟩
    · cases e
    · injection hv with hv; injection hv with hv; injection hv with hv; subst hv; exact hbt
  go_wp2_with fail
  refine (Clone_any (some ⟨b1, 0, none⟩) L.length L _ hba3 (fun e => by cases e) (by omega)).mono ?_
  rintro e w20 ⟨hv, rfl, hO20, hb20, _⟩
  have hSit20 := hSit19.below hb20
  have HN20 : Hid (∀ k, hv.ownBlock = some k → w19.heap.size ≤ k) := hide (fun k e => (World.ownsRow.lt hO20 k e).1)
  have hO20' := hO20.mono (Nat.zero_le _)
  have hlt19 := hSit19.lt
  clear hSit19 hO19a hO20 hb20 hba3
  obtain ⟨a5, c5, rfl, _⟩ := hO20'.at
  have hnl : (its ++ [Value.slice (some ⟨b1, 0, none⟩) L.length L.length] ++ [Value.slice (some ⟨b2, 0, none⟩) L.length L.length]).length = 5 := by simp; omega
  generalize its ++ [Value.slice (some ⟨b1, 0, none⟩) L.length L.length] ++ [Value.slice (some ⟨b2, 0, none⟩) L.length L.length] = ITS at hSit20 hlt19 hnl
  clear hil
  -- marked, grown, looked at
  go_wp2_with fail
  refine (Own_yes hSit20.sh hSit20.it hSit20.ap (by omega) (by omega)).mono ?_
  rintro e w21 ⟨rfl, hK21⟩
  have hW21 : IsWriter w21 wp wv L := hSit20.wr.keep hK21 (fun k hk hi => by
    rcases hk with hk | hk
    · obtain ⟨v, hv, e⟩ := hi
      obtain ⟨j, hj, rfl⟩ := List.getElem_of_mem hv
      obtain ⟨m, ho, _⟩ := hSit20.it j _ (List.getElem?_eq_getElem hj)
      exact OwnB.nwp hSit20.wr ho (hk ▸ e)
    · exact hSit20.wi k hk hi)
  have hO21 : OwnB w21 0 (.slice a5 L.length c5) L := hO20'.keep hK21 (fun k hk hi => by
    have h1 := unhide HN20 k hk
    have h2 := hlt19 k hi
    omega)
  have hB21 : Below w.heap.size w w21 := hK21.below hSit20.bel hSit20.bel.size hSit20.oit
  have hop := hSit20.op
  have hov := hSit20.ov
  clear hSit20 hO20' HN20 hlt19 hnl hK21
  go_wp2_with fail
  refine (Bytes_any hW21).mono ?_
  rintro e w22 ⟨rfl, hO22, hb22⟩
  have hW22 := hW21.below hb22
  have hB22 : Below w.heap.size w w22 := hB21.trans (hb22.mono hB21.size)
  have hO22' := hO21.below hb22
  have hba4 : BAt w22 (some ⟨w21.heap.size, 0, none⟩) L := by
    rcases hO22.shape with ⟨e, _⟩ | ⟨g', cap', hv, _, _, _, _, hbt⟩
    · cases e
    · injection hv with hv; injection hv with hv; injection hv with hv; rw [hv]; exact hbt
  have hba5 : BAt w22 a5 L := by
    obtain ⟨a', c', e, hbt⟩ := hO22'.at
    injection e with e1 e2 e3
    subst e1
    exact hbt
  clear hW21 hB21 hO22 hb22 hO21 hO22'
  go_wp2_with fail
  refine (Equal_any (some ⟨w21.heap.size, 0, none⟩) a5 L.length c5 L L _ hba4 hba5 (by unfold maxLen; omega) (by unfold maxLen; omega)).mono ?_
  rintro e w23 ⟨rfl, j3, rfl⟩
  have hbd := below_drewN w22 j3
  have hW23 := hW22.below hbd
  have hB23 : Below w.heap.size w (w22.drewN j3) := hB22.trans (hbd.mono hB22.size)
  clear hW22 hB22 hbd hba4 hba5
  generalize World.drewN _ j3 = w23 at hW23 hB23 ⊢
  go_wp2_with fail
  refine (wByte_u hW23 1).mono ?_
  rintro e w24 ⟨rfl, wv', hW24, hK24, hN24⟩
  have hB24 : Below w.heap.size w w24 := hK24.below hB23 hB23.size (fun k hk => by
    rcases hk with hk | hk
    · rw [hk]; exact hop
    · exact hov k hk)
  go_wp2_with fail
  refine (full_any L _ (unhide HLL)).mono ?_
  rintro e w25 ⟨rfl, rfl⟩
  have hww : (wE L 1 1 == wE L 1 1) = true := by simp
  clear hW24 hK24 hN24 hW23 hB23
  generalize wE L 1 1 = J2 at hww ⊢
  go_wp2
  go_ret
  exact ⟨by simp, hB24⟩
end Go.Proofs.Ytggaecmjadkopab
