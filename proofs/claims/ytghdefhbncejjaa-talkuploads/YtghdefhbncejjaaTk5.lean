/-
  The contract of the document's framed: the error is that of talk's opened. Conditions: lengths fit.
-/
import Derived.Test.YtghdefhbncejjaaTk2
import Derived.Test.YtghdefhbncejjaaTk4
import Derived.Deep.RegionHeld
namespace Go.Proofs.Ytghdefhbncejjaa
open Go.RowKit
set_option linter.unusedVariables false

theorem s32_inj {a b : Nat} (ha : a < 4294967296) (hb : b < 4294967296) (h : s32 a = s32 b) : a = b := by
  unfold s32 at h
  split at h <;> split at h <;> omega
theorem beN_four (a b c d : UInt8) : beN [a, b, c, d] = ((a.toNat * 256 + b.toNat) * 256 + c.toNat) * 256 + d.toNat := by simp [beN]
theorem be4_list (n : Int) : be n 4 = [byteOf n 3, byteOf n 2, byteOf n 1, byteOf n 0] := by unfold be; rfl
theorem byte_of {n : Int} {j : Nat} {x : UInt8} (h : n / (256 : Int) ^ j % 256 = (x.toNat : Int)) : byteOf n j = x := by
  apply UInt8.toNat_inj.1
  have := byteOf_eq n j
  omega
theorem be_beN (D : List UInt8) (h : D.length = 4) : beN D < 4294967296 ∧ be (beN D : Int) 4 = D := by
  match D, h with
  | [a, b, c, d], _ =>
    have ha := a.toNat_lt
    have hb := b.toNat_lt
    have hc := c.toNat_lt
    have hd := d.toNat_lt
    rw [beN_four, be4_list]
    refine ⟨by omega, ?_⟩
    rw [byte_of (x := a) (by omega), byte_of (x := b) (by omega), byte_of (x := c) (by omega), byte_of (x := d) (by omega)]
theorem beN_be (n : Nat) (h : n < 4294967296) : beN (be (n : Int) 4) = n := by
  rw [be4_list, beN_four]
  have h3 := byteOf_eq (n : Int) 3
  have h2 := byteOf_eq (n : Int) 2
  have h1 := byteOf_eq (n : Int) 1
  have h0 := byteOf_eq (n : Int) 0
  omega
/-- The sum stands behind: in numbers, and in bytes. -/
theorem sum_iff {l : List UInt8} {N : Nat} (h : l.length = N + 4) : s32 (beN (l.drop N)) = s32 (sumOf (l.take N)) ↔ tsum (l.take N) = l := by
  have hD : (l.drop N).length = 4 := by rw [List.length_drop]; omega
  obtain ⟨h1, h2⟩ := be_beN (l.drop N) hD
  constructor
  · intro e
    have := s32_inj h1 (sumOf_lt _) e
    unfold tsum
    rw [← this, h2, List.take_append_drop]
  · intro e
    have h3 : l.drop N = be (sumOf (l.take N) : Int) 4 := by
      have h4 : (l.take N) ++ be (sumOf (l.take N) : Int) 4 = l.take N ++ l.drop N := by rw [List.take_append_drop]; exact e
      exact (List.append_cancel_left h4).symm
    rw [h3, beN_be _ (sumOf_lt _)]
theorem conv_bytesT {w : World} {ao : Option Addr} {l : List UInt8} (h : BAt w ao l) (hn : ao = none → l = []) (c : Nat) : (convert 22 9 (.slice ao l.length c)).run Try.prog w = .ok (.string ⟨l.toArray⟩) w := by
  cases ao with
  | some x =>
    refine run_convert_bytes_back w 22 9 5 x c l Try.underlying22 Try.underlying5 Try.underlying9 (fun j hj => ?_)
    obtain ⟨b, off, e, hc⟩ := h j hj
    injection e with e
    subst e
    rw [Addr.add_lit, hc]
    unfold at8
    rw [List.getD_eq_getElem?_getD, List.getElem?_eq_getElem hj]
    rfl
  | none =>
    have := hn rfl
    subst this
    show (convert 22 9 (.slice none 0 c)).run Try.prog w = _
    rw [run_convert_bytes_string w 22 9 5 none 0 c Try.underlying22 Try.underlying5 Try.underlying9]
    rfl
theorem summed_conv {w : World} {ao : Option Addr} {c : Nat} {T l : List UInt8} {b off : Nat} (hT : BAt w (some ⟨b, off, none⟩) T) (hl : T.length ≤ 140737488351232) (hb : BAt w ao l) (hn : ao = none → l = []) :
    Calls Try.prog 33 #[.slice (some ⟨b, off, none⟩) T.length c] w fun e w' => ∃ va vc, e = .returned (.slice va (tsum T).length vc) ∧ (convert 22 9 (.slice va (tsum T).length vc)).run Try.prog w' = .ok (.string ⟨(tsum T).toArray⟩) w' ∧ (convert 22 9 (.slice ao l.length c)).run Try.prog w' = .ok (.string ⟨l.toArray⟩) w' ∧ Below w.heap.size w w' := by
  refine (summed_any (some ⟨b, off, none⟩) c T w hT (fun e => by cases e) hl).mono ?_
  rintro e w' ⟨v, rfl, hO, hB⟩
  obtain ⟨va, vc, hv, hva⟩ := hO.at
  refine ⟨va, vc, by rw [hv], conv_bytesT hva (fun e => ?_) vc, conv_bytesT (hb.below' hB) hn c, hB⟩
  subst e
  rcases hO.shape with ⟨_, h⟩ | ⟨g, cap, h, _⟩
  · exact h
  · rw [hv] at h; cases h
theorem mixedT : Try.prog.follows .mixedOrders = true := by kernel_rfl
set_option maxHeartbeats 4000000 in
theorem framed_nil (ao : Option Addr) (c : Nat) (l : List UInt8) (mk : Int) (k : Nat) (w : World) (hb : BAt w ao l) (hlc : l.length ≤ c) (hl : l.length ≤ 140737488351232) (h5 : k ≤ 5) (h0 : l.length = 0) :
    Calls Try.prog 36 #[.slice ao l.length c, .int .u8 mk, .int .i64 (k : Int)] w fun e w' => e = .returned (.int .i64 (opE l mk (k + 1))) ∧ Below w.heap.size w w' := by
  have hE : opE l mk (k + 1) = 2 := by unfold opE; rw [if_pos h0]
  have HE := hide hE
  have i0 : ((l.length : Nat) : Int) = 0 := by omega
  clear hE h0
  go_enter Try.func36, Try.ntmps36
  go_wp2
  go_ret
  exact ⟨ret_u32 (unhide HE).symm, Below.refl _ _⟩
set_option maxHeartbeats 4000000 in
theorem framed_mark (ao : Option Addr) (c : Nat) (l : List UInt8) (mk : Int) (k : Nat) (w : World) (hb : BAt w ao l) (hlc : l.length ≤ c) (hl : l.length ≤ 140737488351232) (h5 : k ≤ 5) (h0 : 0 < l.length) (hm : at8 l 0 ≠ mk) :
    Calls Try.prog 36 #[.slice ao l.length c, .int .u8 mk, .int .i64 (k : Int)] w fun e w' => e = .returned (.int .i64 (opE l mk (k + 1))) ∧ Below w.heap.size w w' := by
  have hE : opE l mk (k + 1) = 240 := by unfold opE; rw [if_neg (by omega), if_pos hm]
  have HE := hide hE
  obtain ⟨b, off, rfl, hc⟩ := hb.head (by omega)
  have c0 : w.cell? ⟨b, off, none⟩ = some (.int .u8 (at8 l 0)) := hc 0 (by omega)
  have g0 : (0 : Int) < ((l.length : Nat) : Int) := by omega
  have b0 : (((l.length : Nat) : Int) == 0) = false := beq_f (by omega)
  have bm := bne_t hm
  generalize at8 l 0 = x at c0 bm
  clear hE hm hc hb
  go_enter Try.func36, Try.ntmps36
  go_wp2
  go_ret
  exact ⟨ret_u32 (unhide HE).symm, Below.refl _ _⟩
set_option maxHeartbeats 4000000 in
theorem framed_few (ao : Option Addr) (c : Nat) (l : List UInt8) (mk : Int) (k : Nat) (w : World) (hb : BAt w ao l) (hlc : l.length ≤ c) (hl : l.length ≤ 140737488351232) (h5 : k ≤ 5) (h0 : 0 < l.length) (hm : at8 l 0 = mk) (hf : l.length < k + 1) :
    Calls Try.prog 36 #[.slice ao l.length c, .int .u8 mk, .int .i64 (k : Int)] w fun e w' => e = .returned (.int .i64 (opE l mk (k + 1))) ∧ Below w.heap.size w w' := by
  have hE : opE l mk (k + 1) = 2 := by unfold opE; rw [if_neg (by omega), if_neg (by rw [hm]; simp), if_pos hf]
  have HE := hide hE
  obtain ⟨b, off, rfl, hc⟩ := hb.head (by omega)
  have c0 : w.cell? ⟨b, off, none⟩ = some (.int .u8 (at8 l 0)) := hc 0 (by omega)
  have g0 : (0 : Int) < ((l.length : Nat) : Int) := by omega
  have b0 : (((l.length : Nat) : Int) == 0) = false := beq_f (by omega)
  have bm := bne_f hm
  have i1 : ((l.length : Nat) : Int) ≤ (k : Int) := by omega
  generalize at8 l 0 = x at c0 bm
  clear hE hm hc hb
  go_enter Try.func36, Try.ntmps36
  go_wp2
  go_ret
  exact ⟨ret_u32 (unhide HE).symm, Below.refl _ _⟩
set_option maxHeartbeats 4000000 in
theorem framed_short (ao : Option Addr) (c : Nat) (l : List UInt8) (mk : Int) (k : Nat) (w : World) (hb : BAt w ao l) (hlc : l.length ≤ c) (hl : l.length ≤ 140737488351232) (h5 : k ≤ 5) (hm : at8 l 0 = mk) (hf : ¬ l.length < k + 1) (hs : l.length < opN l (k + 1) + 4) :
    Calls Try.prog 36 #[.slice ao l.length c, .int .u8 mk, .int .i64 (k : Int)] w fun e w' => e = .returned (.int .i64 (opE l mk (k + 1))) ∧ Below w.heap.size w w' := by
  have hE : opE l mk (k + 1) = 2 := by unfold opE; rw [if_neg (by omega), if_neg (by rw [hm]; simp), if_neg hf, if_pos hs]
  have HE := hide hE
  obtain ⟨b, off, rfl, hc⟩ := hb.head (by omega)
  have c0 : w.cell? ⟨b, off, none⟩ = some (.int .u8 (at8 l 0)) := hc 0 (by omega)
  have g0 : (0 : Int) < ((l.length : Nat) : Int) := by omega
  have b0 : (((l.length : Nat) : Int) == 0) = false := beq_f (by omega)
  have bm := bne_f hm
  have i1 : (k : Int) < ((l.length : Nat) : Int) := by omega
  generalize at8 l 0 = x at c0 bm
  have c1 := hc k (by omega)
  have hlt := (l.getD k 0).toNat_lt
  unfold at8 at c1
  unfold opN at hs
  rw [Nat.add_sub_cancel] at hs
  generalize (l.getD k 0).toNat = n at c1 hs hlt
  have i2 : ((l.length : Nat) : Int) < (k : Int) + 1 + (n : Int) + 4 := by omega
  clear hE hm hc hb hs
  go_enter Try.func36, Try.ntmps36
  go_wp2
  go_ret
  exact ⟨ret_u32 (unhide HE).symm, Below.refl _ _⟩
set_option maxHeartbeats 4000000 in
theorem framed_more (ao : Option Addr) (c : Nat) (l : List UInt8) (mk : Int) (k : Nat) (w : World) (hb : BAt w ao l) (hlc : l.length ≤ c) (hl : l.length ≤ 140737488351232) (h5 : k ≤ 5) (hm : at8 l 0 = mk) (hf : ¬ l.length < k + 1) (hs : opN l (k + 1) + 4 < l.length) :
    Calls Try.prog 36 #[.slice ao l.length c, .int .u8 mk, .int .i64 (k : Int)] w fun e w' => e = .returned (.int .i64 (opE l mk (k + 1))) ∧ Below w.heap.size w w' := by
  have hE : opE l mk (k + 1) = 3 := by unfold opE; rw [if_neg (by omega), if_neg (by rw [hm]; simp), if_neg hf, if_neg (by omega), if_pos hs]
  have HE := hide hE
  obtain ⟨b, off, rfl, hc⟩ := hb.head (by omega)
  have c0 : w.cell? ⟨b, off, none⟩ = some (.int .u8 (at8 l 0)) := hc 0 (by omega)
  have g0 : (0 : Int) < ((l.length : Nat) : Int) := by omega
  have b0 : (((l.length : Nat) : Int) == 0) = false := beq_f (by omega)
  have bm := bne_f hm
  have i1 : (k : Int) < ((l.length : Nat) : Int) := by omega
  generalize at8 l 0 = x at c0 bm
  have c1 := hc k (by omega)
  have hlt := (l.getD k 0).toNat_lt
  unfold at8 at c1
  unfold opN at hs
  rw [Nat.add_sub_cancel] at hs
  generalize (l.getD k 0).toNat = n at c1 hs hlt
  have i2 : (k : Int) + 1 + (n : Int) + 4 < ((l.length : Nat) : Int) := by omega
  clear hE hm hc hb hs
  go_enter Try.func36, Try.ntmps36
  go_wp2
  go_ret
  exact ⟨ret_u32 (unhide HE).symm, Below.refl _ _⟩
set_option maxHeartbeats 4000000 in
theorem framed_good (ao : Option Addr) (c : Nat) (l : List UInt8) (mk : Int) (k : Nat) (w : World) (hb : BAt w ao l) (hlc : l.length ≤ c) (hl : l.length ≤ 140737488351232) (h5 : k ≤ 5) (hm : at8 l 0 = mk) (hf : ¬ l.length < k + 1) (hs : l.length = opN l (k + 1) + 4) (hq : tsum (l.take (opN l (k + 1))) = l) :
    Calls Try.prog 36 #[.slice ao l.length c, .int .u8 mk, .int .i64 (k : Int)] w fun e w' => e = .returned (.int .i64 (opE l mk (k + 1))) ∧ Below w.heap.size w w' := by
  have hE : opE l mk (k + 1) = 0 := by unfold opE; rw [if_neg (by omega), if_neg (by rw [hm]; simp), if_neg hf, if_neg (by omega), if_neg (by omega), if_neg (by rw [(sum_iff hs).2 hq]; simp)]
  have HE := hide hE
  have HBt := hide hb
  have HQ := hide hq
  clear hq
  obtain ⟨b, off, rfl, hc⟩ := hb.head (by omega)
  have c0 : w.cell? ⟨b, off, none⟩ = some (.int .u8 (at8 l 0)) := hc 0 (by omega)
  have g0 : (0 : Int) < ((l.length : Nat) : Int) := by omega
  have b0 : (((l.length : Nat) : Int) == 0) = false := beq_f (by omega)
  have bm := bne_f hm
  have i1 : (k : Int) < ((l.length : Nat) : Int) := by omega
  generalize at8 l 0 = x at c0 bm
  have c1 := hc k (by omega)
  have hlt := (l.getD k 0).toNat_lt
  unfold at8 at c1
  unfold opN at hs HQ
  rw [Nat.add_sub_cancel] at hs HQ
  generalize (l.getD k 0).toNat = n at c1 hs hlt HQ
  have i2 : (k : Int) + 1 + (n : Int) + 4 ≤ ((l.length : Nat) : Int) := by omega
  have i4 : ((l.length : Nat) : Int) ≤ (k : Int) + 1 + (n : Int) + 4 := by omega
  have i5 : (k : Int) + 1 + (n : Int) ≤ (c : Int) := by omega
  obtain ⟨T, hT⟩ : ∃ T, T = l.take (k + 1 + n) := ⟨_, rfl⟩
  have hTl : T.length = k + 1 + n := by rw [hT, List.length_take]; omega
  have HT : Hid (BAt w (some ⟨b, off, none⟩) T) := hide (by rw [hT]; exact (unhide HBt).frontT _)
  rw [← hT] at HQ
  have HSu := hide (summed_conv (w := w.drew) (c := c) (l := l) (ao := some ⟨b, off, none⟩) (unhide HT) (by omega) (unhide HBt) (fun e => by cases e))
  obtain ⟨N, hN⟩ : ∃ N, N = k + 1 + n := ⟨_, rfl⟩
  obtain ⟨M, hM⟩ : ∃ M : Nat, (k : Int) + 1 + (n : Int) + 4 = (M : Int) := ⟨k + 1 + n + 4, by omega⟩
  rw [← hN] at hTl
  rw [hTl] at HSu
  have hMN : (M : Int) - 4 = (N : Int) := by omega
  have hNc : (N : Int) ≤ (c : Int) := by omega
  have hNc2 : N ≤ c := by omega
  have HM := hide hM
  have hNw : IntKind.i64.wrap (N : Int) = (N : Int) := by simp [IntKind.wrap, IntKind.bits, IntKind.signed]; omega
  have cb : (convert 22 9 (.slice (some ⟨b, off, none⟩) l.length c)).run Try.prog w.drew = .ok (.string ⟨l.toArray⟩) w.drew := conv_bytesT (w := w.drew) (unhide HBt) (fun e => by cases e) c
  obtain ⟨S, hS⟩ : ∃ S, S = tsum T := ⟨_, rfl⟩
  have hSl : 0 < S.length := by rw [hS, tsum_len]; omega
  rw [← hS] at HQ HSu
  have HB0 : Hid (Below w.heap.size w w.drew) := hide ⟨rfl, rfl, rfl, Nat.le_refl _, fun _ _ => rfl⟩
  clear hE hm hc hb hs hT hTl hS hN hM
  go_enter Try.func36, Try.ntmps36
  go_wp2_with fail
  rw [unhide HM]
  have mixed := mixedT
  refine wp_region_held_drew (S := fun w' => (convert 22 9 (.slice (some ⟨b, off, none⟩) l.length c)).run Try.prog w' = .ok (.string ⟨l.toArray⟩) w') mixed cb (fun hS => ?_)
  generalize w.drew = Wd at hS HSu HB0 ⊢
  refine wpAnyH_take (i := 0) (v := .slice (some ⟨b, off, none⟩) l.length c) rfl (by kernel_rfl) (by kernel_rfl) (by kernel_rfl) (fun _ _ _ h => h) (Or.inl ⟨by rfl, fun w _ => by go_simp⟩) hS ?_
  go_simp
  refine wpAnyH_take (i := 1) (v := .int .i64 (M : Int)) rfl (by kernel_rfl) (by kernel_rfl) (by kernel_rfl) (fun _ _ _ h => h) (Or.inl ⟨by rfl, fun w _ => by go_simp⟩) hS ?_
  go_simp
  refine wpAnyH_take (i := 2) (v := .int .i64 (N : Int)) rfl (by kernel_rfl) (by kernel_rfl) (by kernel_rfl) (fun _ _ _ h => h) (Or.inl ⟨by rfl, fun w _ => by go_simp⟩) hS ?_
  go_simp
  refine wpAnyH_take (i := 3) (v := .slice (some ⟨b, off, none⟩) N c) rfl (by kernel_rfl) (by kernel_rfl) (by kernel_rfl) (fun _ _ _ h => h) (Or.inl ⟨by rfl, fun w _ => by go_simp⟩) hS ?_
  go_simp
  refine wpAnyH_take (i := 6) (v := .slice (some ⟨b, off, none⟩) l.length c) rfl (by kernel_rfl) (by kernel_rfl) (by kernel_rfl) (fun _ _ _ h => h) (Or.inl ⟨by rfl, fun w _ => by go_simp⟩) hS ?_
  go_simp
  refine wpAnyH_take (i := 7) (v := .string ⟨l.toArray⟩) rfl (by kernel_rfl) (by kernel_rfl) (by kernel_rfl) (fun _ _ _ h => h) (Or.inl ⟨by rfl, fun w h => by go_simp⟩) hS ?_
  go_simp
  refine wpAnyH_ready (rs := [4]) (by kernel_rfl) (by simp) ?_
  refine AllReadyH.cons rfl (fun K hK => ?_) AllReadyH.nil
  go_simp
  go_wp2_with (go_at_call 33; with_reducible refine (unhide HSu).mono ?_; rintro e W1 ⟨va, vc, rfl, cv, cb2, hb1⟩)
  have HB1 := hide ((unhide HB0).trans (hb1.mono (unhide HB0).size))
  refine hK.out _ _ cb2 (fun hS5 => ?_)
  clear hK K hS hb1 HSu
  refine wpAnyH_ready (rs := [5]) (by kernel_rfl) (by simp) ?_
  refine AllReadyH.cons rfl (fun K hK => ?_) AllReadyH.nil
  go_simp
  refine hK.out _ _ cb2 (fun hS6 => ?_)
  clear hK K hS5
  have HQ2 := unhide HQ
  refine wpAnyH_take (i := 8) (v := .bool false) rfl (by kernel_rfl) (by kernel_rfl) (by kernel_rfl) (fun _ _ _ h => h) (Or.inl ⟨by rfl, fun w _ => by go_simp⟩) hS6 ?_
  clear HQ2
  refine wpAnyH_done (by kernel_rfl) ?_ _
  go_wp2
  go_ret
  exact ⟨ret_u32 (unhide HE).symm, unhide HB1⟩
set_option maxHeartbeats 4000000 in
theorem framed_sum (ao : Option Addr) (c : Nat) (l : List UInt8) (mk : Int) (k : Nat) (w : World) (hb : BAt w ao l) (hlc : l.length ≤ c) (hl : l.length ≤ 140737488351232) (h5 : k ≤ 5) (hm : at8 l 0 = mk) (hf : ¬ l.length < k + 1) (hs : l.length = opN l (k + 1) + 4) (hq : tsum (l.take (opN l (k + 1))) ≠ l) :
    Calls Try.prog 36 #[.slice ao l.length c, .int .u8 mk, .int .i64 (k : Int)] w fun e w' => e = .returned (.int .i64 (opE l mk (k + 1))) ∧ Below w.heap.size w w' := by
  have hE : opE l mk (k + 1) = 161 := by unfold opE; rw [if_neg (by omega), if_neg (by rw [hm]; simp), if_neg hf, if_neg (by omega), if_neg (by omega), if_pos (fun e => hq ((sum_iff hs).1 e))]
  have HE := hide hE
  have HBt := hide hb
  have HQ := hide hq
  clear hq
  obtain ⟨b, off, rfl, hc⟩ := hb.head (by omega)
  have c0 : w.cell? ⟨b, off, none⟩ = some (.int .u8 (at8 l 0)) := hc 0 (by omega)
  have g0 : (0 : Int) < ((l.length : Nat) : Int) := by omega
  have b0 : (((l.length : Nat) : Int) == 0) = false := beq_f (by omega)
  have bm := bne_f hm
  have i1 : (k : Int) < ((l.length : Nat) : Int) := by omega
  generalize at8 l 0 = x at c0 bm
  have c1 := hc k (by omega)
  have hlt := (l.getD k 0).toNat_lt
  unfold at8 at c1
  unfold opN at hs HQ
  rw [Nat.add_sub_cancel] at hs HQ
  generalize (l.getD k 0).toNat = n at c1 hs hlt HQ
  have i2 : (k : Int) + 1 + (n : Int) + 4 ≤ ((l.length : Nat) : Int) := by omega
  have i4 : ((l.length : Nat) : Int) ≤ (k : Int) + 1 + (n : Int) + 4 := by omega
  have i5 : (k : Int) + 1 + (n : Int) ≤ (c : Int) := by omega
  obtain ⟨T, hT⟩ : ∃ T, T = l.take (k + 1 + n) := ⟨_, rfl⟩
  have hTl : T.length = k + 1 + n := by rw [hT, List.length_take]; omega
  have HT : Hid (BAt w (some ⟨b, off, none⟩) T) := hide (by rw [hT]; exact (unhide HBt).frontT _)
  rw [← hT] at HQ
  have HSu := hide (summed_conv (w := w.drew) (c := c) (l := l) (ao := some ⟨b, off, none⟩) (unhide HT) (by omega) (unhide HBt) (fun e => by cases e))
  obtain ⟨N, hN⟩ : ∃ N, N = k + 1 + n := ⟨_, rfl⟩
  obtain ⟨M, hM⟩ : ∃ M : Nat, (k : Int) + 1 + (n : Int) + 4 = (M : Int) := ⟨k + 1 + n + 4, by omega⟩
  rw [← hN] at hTl
  rw [hTl] at HSu
  have hMN : (M : Int) - 4 = (N : Int) := by omega
  have hNc : (N : Int) ≤ (c : Int) := by omega
  have hNc2 : N ≤ c := by omega
  have HM := hide hM
  have hNw : IntKind.i64.wrap (N : Int) = (N : Int) := by simp [IntKind.wrap, IntKind.bits, IntKind.signed]; omega
  have cb : (convert 22 9 (.slice (some ⟨b, off, none⟩) l.length c)).run Try.prog w.drew = .ok (.string ⟨l.toArray⟩) w.drew := conv_bytesT (w := w.drew) (unhide HBt) (fun e => by cases e) c
  obtain ⟨S, hS⟩ : ∃ S, S = tsum T := ⟨_, rfl⟩
  have hSl : 0 < S.length := by rw [hS, tsum_len]; omega
  rw [← hS] at HQ HSu
  have HB0 : Hid (Below w.heap.size w w.drew) := hide ⟨rfl, rfl, rfl, Nat.le_refl _, fun _ _ => rfl⟩
  clear hE hm hc hb hs hT hTl hS hN hM
  go_enter Try.func36, Try.ntmps36
  go_wp2_with fail
  rw [unhide HM]
  have mixed := mixedT
  refine wp_region_held_drew (S := fun w' => (convert 22 9 (.slice (some ⟨b, off, none⟩) l.length c)).run Try.prog w' = .ok (.string ⟨l.toArray⟩) w') mixed cb (fun hS => ?_)
  generalize w.drew = Wd at hS HSu HB0 ⊢
  refine wpAnyH_take (i := 0) (v := .slice (some ⟨b, off, none⟩) l.length c) rfl (by kernel_rfl) (by kernel_rfl) (by kernel_rfl) (fun _ _ _ h => h) (Or.inl ⟨by rfl, fun w _ => by go_simp⟩) hS ?_
  go_simp
  refine wpAnyH_take (i := 1) (v := .int .i64 (M : Int)) rfl (by kernel_rfl) (by kernel_rfl) (by kernel_rfl) (fun _ _ _ h => h) (Or.inl ⟨by rfl, fun w _ => by go_simp⟩) hS ?_
  go_simp
  refine wpAnyH_take (i := 2) (v := .int .i64 (N : Int)) rfl (by kernel_rfl) (by kernel_rfl) (by kernel_rfl) (fun _ _ _ h => h) (Or.inl ⟨by rfl, fun w _ => by go_simp⟩) hS ?_
  go_simp
  refine wpAnyH_take (i := 3) (v := .slice (some ⟨b, off, none⟩) N c) rfl (by kernel_rfl) (by kernel_rfl) (by kernel_rfl) (fun _ _ _ h => h) (Or.inl ⟨by rfl, fun w _ => by go_simp⟩) hS ?_
  go_simp
  refine wpAnyH_take (i := 6) (v := .slice (some ⟨b, off, none⟩) l.length c) rfl (by kernel_rfl) (by kernel_rfl) (by kernel_rfl) (fun _ _ _ h => h) (Or.inl ⟨by rfl, fun w _ => by go_simp⟩) hS ?_
  go_simp
  refine wpAnyH_take (i := 7) (v := .string ⟨l.toArray⟩) rfl (by kernel_rfl) (by kernel_rfl) (by kernel_rfl) (fun _ _ _ h => h) (Or.inl ⟨by rfl, fun w h => by go_simp⟩) hS ?_
  go_simp
  refine wpAnyH_ready (rs := [4]) (by kernel_rfl) (by simp) ?_
  refine AllReadyH.cons rfl (fun K hK => ?_) AllReadyH.nil
  go_simp
  go_wp2_with (go_at_call 33; with_reducible refine (unhide HSu).mono ?_; rintro e W1 ⟨va, vc, rfl, cv, cb2, hb1⟩)
  have HB1 := hide ((unhide HB0).trans (hb1.mono (unhide HB0).size))
  refine hK.out _ _ cb2 (fun hS5 => ?_)
  clear hK K hS hb1 HSu
  refine wpAnyH_ready (rs := [5]) (by kernel_rfl) (by simp) ?_
  refine AllReadyH.cons rfl (fun K hK => ?_) AllReadyH.nil
  go_simp
  refine hK.out _ _ cb2 (fun hS6 => ?_)
  clear hK K hS5
  have HQ2 := unhide HQ
  refine wpAnyH_take (i := 8) (v := .bool true) rfl (by kernel_rfl) (by kernel_rfl) (by kernel_rfl) (fun _ _ _ h => h) (Or.inl ⟨by rfl, fun w _ => by go_simp⟩) hS6 ?_
  clear HQ2
  refine wpAnyH_done (by kernel_rfl) ?_ _
  go_wp2
  go_ret
  exact ⟨ret_u32 (unhide HE).symm, unhide HB1⟩
theorem framed_any (ao : Option Addr) (c : Nat) (l : List UInt8) (mk : Int) (k : Nat) (w : World) (hb : BAt w ao l) (hlc : l.length ≤ c) (hl : l.length ≤ 140737488351232) (h5 : k ≤ 5) :
    Calls Try.prog 36 #[.slice ao l.length c, .int .u8 mk, .int .i64 (k : Int)] w fun e w' => e = .returned (.int .i64 (opE l mk (k + 1))) ∧ Below w.heap.size w w' := by
  by_cases h0 : l.length = 0
  · exact framed_nil ao c l mk k w hb hlc hl h5 h0
  by_cases hm : at8 l 0 = mk
  · by_cases hf : l.length < k + 1
    · exact framed_few ao c l mk k w hb hlc hl h5 (by omega) hm hf
    by_cases hs : l.length < opN l (k + 1) + 4
    · exact framed_short ao c l mk k w hb hlc hl h5 hm hf hs
    by_cases ho : opN l (k + 1) + 4 < l.length
    · exact framed_more ao c l mk k w hb hlc hl h5 hm hf ho
    by_cases hq : tsum (l.take (opN l (k + 1))) = l
    · exact framed_good ao c l mk k w hb hlc hl h5 hm hf (by omega) hq
    · exact framed_sum ao c l mk k w hb hlc hl h5 hm hf (by omega) hq
  · exact framed_mark ao c l mk k w hb hlc hl h5 (by omega) hm
end Go.Proofs.Ytghdefhbncejjaa
