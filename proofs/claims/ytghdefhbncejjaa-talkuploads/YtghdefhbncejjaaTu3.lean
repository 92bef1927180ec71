/-
  The contracts of talk.Upload and of the document's. Conditions: lengths fit.
-/
import Derived.Test.YtghdefhbncejjaaTu2
namespace Go.Proofs.Ytghdefhbncejjaa
open Go.RowKit
set_option linter.unusedVariables false

theorem dat_eq (l : List UInt8) (a C e : Nat) (h : e = min (a + C) l.length) (ha : a < l.length) : (l.take e).drop a = (l.drop a).take C := by
  have h1 : l.take e = l.take (a + C) := by
    rw [h]
    by_cases hc : a + C ≤ l.length
    · rw [Nat.min_eq_left hc]
    · rw [Nat.min_eq_right (by omega), List.take_of_length_le (by omega), List.take_of_length_le (by omega)]
  rw [h1, List.drop_take]
  congr 1
  omega
set_option maxHeartbeats 4000000 in
theorem Upload_any (ao : Option Addr) (c : Nat) (l : List UInt8) (ch : Int) (w : World) (hb : BAt w ao l) (hlc : l.length ≤ c) (hl : l.length ≤ 140737488351232) :
    Calls Try.prog 21 #[.slice ao l.length c, .int .i64 ch] w (UpPost w (upE l ch) (upR l ch)) := by
  by_cases h1 : ch < 1
  · have hE : upE l ch = 1 := by unfold upE; rw [if_pos (Or.inl h1)]
    have HE := hide hE
    have HL := hide (show upR l ch = [] by unfold upR; rw [hE]; rfl)
    clear hE hb
    go_enter Try.func21, Try.ntmps21
    go_wp2
    go_ret2
    exact ⟨.slice none 0 0, [], ret_eT (unhide HE).symm, (Ups.nil _ _).eq (unhide HL), Below.refl _ _⟩
  by_cases h2 : 255 < ch
  · have hE : upE l ch = 1 := by unfold upE; rw [if_pos (Or.inr h2)]
    have HE := hide hE
    have HL := hide (show upR l ch = [] by unfold upR; rw [hE]; rfl)
    clear hE hb
    go_enter Try.func21, Try.ntmps21
    go_wp2
    go_ret2
    exact ⟨.slice none 0 0, [], ret_eT (unhide HE).symm, (Ups.nil _ _).eq (unhide HL), Below.refl _ _⟩
  by_cases h3 : l.length = 0
  · have hE : upE l ch = 4 := by unfold upE; rw [if_neg (by omega), if_pos (Or.inl h3)]
    have HE := hide hE
    have HL := hide (show upR l ch = [] by unfold upR; rw [hE]; rfl)
    clear hE hb
    have i0 : (((l.length : Nat) : Int) == 0) = true := beq_t (by omega)
    clear h3
    go_enter Try.func21, Try.ntmps21
    go_wp2
    go_ret2
    exact ⟨.slice none 0 0, [], ret_eT (unhide HE).symm, (Ups.nil _ _).eq (unhide HL), Below.refl _ _⟩
  by_cases h4 : 4096 < l.length
  · have hE : upE l ch = 4 := by unfold upE; rw [if_neg (by omega), if_pos (Or.inr h4)]
    have HE := hide hE
    have HL := hide (show upR l ch = [] by unfold upR; rw [hE]; rfl)
    clear hE hb
    have i0 : (((l.length : Nat) : Int) == 0) = false := beq_f (by omega)
    have i1 : (4096 : Int) < ((l.length : Nat) : Int) := by omega
    go_enter Try.func21, Try.ntmps21
    go_wp2
    go_ret2
    exact ⟨.slice none 0 0, [], ret_eT (unhide HE).symm, (Ups.nil _ _).eq (unhide HL), Below.refl _ _⟩
  have hE : upE l ch = 0 := by unfold upE; rw [if_neg (by omega), if_neg (by omega)]
  obtain ⟨C, rfl⟩ := Int.eq_ofNat_of_zero_le (show 0 ≤ ch by omega)
  have HE := hide hE
  have HL := hide (show upR l (C : Int) = upA l C by unfold upR; rw [if_pos hE]; rfl)
  have hC1 : 1 ≤ C := by omega
  have hC2 : C ≤ 255 := by omega
  have j1 : (1 : Int) ≤ (C : Int) := by omega
  have j2 : (C : Int) ≤ 255 := by omega
  have j3 : (((l.length : Nat) : Int) == 0) = false := beq_f (by omega)
  have j4 : ((l.length : Nat) : Int) ≤ 4096 := by omega
  have hl0 : 1 ≤ l.length := by omega
  have hl4 : l.length ≤ 4096 := by omega
  obtain ⟨b, off, rfl, -⟩ := hb.head (by omega)
  have HBt := hide hb
  have hN := upN_le hC1 hl4
  have HU0 : Hid (Ups (w.alloc (.cells #[.int .i64 4, .int .i64 ((l.length : Nat) : Int), .slice none 0 0] 24)) w.heap.size (.slice (some ⟨w.heap.size, 0, none⟩) 1 1) [⟨4, ((l.length : Nat) : Int), none, 0, []⟩] (upP l C 0)) := hide
    ⟨⟨by rfl, Or.inr ⟨w.heap.size, 1, _, rfl, Nat.le_refl _, heap_alloc_new w _, Nat.le_refl _, by unfold maxLen; omega, by rfl, by simp [rqV, rqC]⟩⟩, rfl, fun i x hx => by
      match i, hx with
      | 0, hx => simp at hx; subst hx; exact World.ownsRow_nil _ _ _ _, fun i j x y hx hy hij => by
      match i, j, hx, hy with
      | 0, 0, _, _ => omega
      | 0, j + 1, _, hy => simp at hy
      | i + 1, _, hx, _ => simp at hx⟩
  have HB0 : Hid (Below w.heap.size w (w.alloc (.cells #[.int .i64 4, .int .i64 ((l.length : Nat) : Int), .slice none 0 0] 24))) := hide ((Below.refl _ _).alloc (Nat.le_refl _) _)
  clear hE hb h1 h2 h3 h4
  go_enter Try.func21, Try.ntmps21
  go_wp2_with fail
  go_loopw [6, 7] (fun v i wr => ∃ (n a : Nat) (Q : List Rq), a ≤ l.length + 255 ∧ n ≤ 4096 ∧ i = .int .i64 (a : Int) ∧ Hid (a = n * C) ∧ Hid (n ≤ upN l C) ∧ Hid (Ups wr w.heap.size v Q (upP l C n)) ∧ Hid (Below w.heap.size w wr)) (fun _ i _ => l.length + 300 - (intOf i).toNat)
  case atStart => exact ⟨0, 0, _, by omega, by omega, rfl, hide (by omega), hide (Nat.zero_le _), HU0, HB0⟩
  case round =>
    clear HU0 HB0
    obtain ⟨n, a, Q, ha, hn4, rfl, Ha, Hn, HU, HBr⟩ := hrel
    have hQl : Q.length = n + 1 := by rw [← upP_len l C n, ← (unhide HU).pl, List.length_map]
    obtain ⟨qa, qc, hqe, -⟩ := (unhide HU).own.at
    have HQl := hide hQl
    clear hQl
    subst hqe
    by_cases hlt : a < l.length
    · obtain ⟨e, he⟩ : ∃ e, e = min (a + C) l.length := ⟨_, rfl⟩
      have he1 : a < e := by omega
      have he2 : e ≤ l.length := by omega
      have he3 : e ≤ a + C := by omega
      have hde := dat_eq l a C e he hlt
      obtain ⟨d, hd⟩ : ∃ d, d = (l.take e).drop a := ⟨_, rfl⟩
      have hdl : d.length = e - a := by rw [hd, List.length_drop, List.length_take]; omega
      have HSr : Hid (SrcB wr (.slice (some ⟨b, off + a, none⟩) (e - a) (c - a)) d) := hide (Or.inr ⟨_, _, by rw [hdl], by rw [hd]; exact ((((unhide HBt).below' (unhide HBr)).frontT e).dropT a)⟩)
      have HDD : Hid (d = (l.drop a).take C) := hide (by rw [hd]; exact hde)
      have hcase : (e = a + C ∧ (a : Int) + (C : Int) ≤ ((l.length : Nat) : Int)) ∨ (e = l.length ∧ ((l.length : Nat) : Int) < (a : Int) + (C : Int)) := by omega
      have i1 : (a : Int) < ((l.length : Nat) : Int) := by omega
      have i2 : (a : Int) ≤ (e : Int) := by omega
      have i3 : (e : Int) ≤ (c : Int) := by omega
      have i4 : ¬ c = a := by omega
      have Hdl := hide hdl
      have HON : Hid (OwnB wr wr.heap.size (.slice none 0 0) []) := hide (World.ownsRow_nil _ _ _ _)
      have HN1 := hide (upN_more hC1 (by rw [← unhide Ha]; exact hlt))
      have hdl3 : d.length ≤ 300 := by omega
      clear he hde hd hdl
      rcases hcase with ⟨rfl, hx⟩ | ⟨rfl, hx⟩
      all_goals
        go_wp2_with (at_builtin; refine wpList_appendB rfl (.const (.slice none 0 0)) (.tmp 45) rfl wr.heap.size (.slice none 0 0) [] rfl (unhide HON) _ d (by first | rfl | simp [Act.eval]) (unhide HSr) (by simp; omega) (Nat.le_refl _) ?_)
        intro v6 w6 hO6 hG6 hF6 hF7
        have hb6 : Below wr.heap.size wr w6 := below_grown hG6 (Nat.le_refl _) (fun k e => by cases e)
        have hO6' : OwnB w6 wr.heap.size v6 d := by simpa using hO6
        obtain ⟨da, dc, hv, -⟩ := hO6'.at
        subst hv
        have hal : Below w6.heap.size w6 (w6.alloc (.cells #[.int .i64 5, .int .i64 (a : Int), .slice da d.length dc] 24)) := (Below.refl _ _).alloc (Nat.le_refl _) _
        have hb7 := hb6.trans (hal.mono hb6.size)
        have HSo : Hid (SrcQ (w6.alloc (.cells #[.int .i64 5, .int .i64 (a : Int), .slice da d.length dc] 24)) (.slice (some ⟨w6.heap.size, 0, none⟩) 1 1) [⟨5, (a : Int), da, dc, d⟩]) := hide (src_one ⟨5, (a : Int), da, dc, d⟩)
        have HDo : Hid (OwnB (w6.alloc (.cells #[.int .i64 5, .int .i64 (a : Int), .slice da d.length dc] 24)) wr.heap.size (qV ⟨5, (a : Int), da, dc, d⟩) d) := hide (hO6'.below hal)
        have HB7 := hide hb7
        have HQ7 := hide ((unhide HU).own.below hb7)
        clear hO6 hO6' hG6 hF6 hF7 hb6 hal hb7 HSr HON
        go_wp2_with (at_builtin; refine wpList_appendQ rfl (.tmp 40) (.tmp 48) rfl w.heap.size (.slice qa Q.length qc) Q rfl (unhide HQ7) (.slice (some ⟨w6.heap.size, 0, none⟩) 1 1) [⟨5, (a : Int), da, dc, d⟩] rfl (unhide HSo) (by rw [unhide HQl]; simp; omega) (by have := (unhide HBr).size; have := (unhide HB7).size; omega) ?_)
        intro v8 w8 hO8 hG8
        have HU8 := hide ((unhide HU).step (unhide HBr).size (unhide HB7) (unhide HDo) hO8 hG8)
        have HB8 := hide ((((unhide HBr).trans ((unhide HB7).mono (unhide HBr).size))).grown hG8 (by have := (unhide HBr).size; have := (unhide HB7).size; omega) (fun q e => (World.ownsRow.lt (unhide HU).own q e).1))
        have HP8 : Hid (upP l C (n + 1) = upP l C n ++ [qP ⟨5, (a : Int), da, dc, d⟩]) := hide (by
          show upP l C n ++ [(5, ((n * C : Nat) : Int), (l.drop (n * C)).take C)] = _
          rw [← unhide Ha, ← unhide HDD]
          rfl)
        obtain ⟨qa8, qc8, hq8, -⟩ := hO8.at
        subst hq8
        clear hO8 hG8 HSo HDo HQ7
        go_wp2
        go_roundw
        case rel => exact ⟨n + 1, a + C, _, by omega, by have := unhide HN1; omega, by go_num, hide (by rw [Nat.succ_mul, ← unhide Ha]), HN1, hide ((unhide HU8).eq (unhide HP8)), HB8⟩
        case measure => simp [intOf]; omega
    · have i1 : ¬ (a : Int) < ((l.length : Nat) : Int) := by omega
      have HNe := hide (upN_end hC1 (unhide Hn) (by rw [← unhide Ha]; omega))
      have hal : Below wr.heap.size wr (wr.alloc (.cells #[.int .i64 6, .int .i64 0, .slice none 0 0] 24)) := (Below.refl _ _).alloc (Nat.le_refl _) _
      have HSo : Hid (SrcQ (wr.alloc (.cells #[.int .i64 6, .int .i64 0, .slice none 0 0] 24)) (.slice (some ⟨wr.heap.size, 0, none⟩) 1 1) [⟨6, 0, none, 0, []⟩]) := hide (src_one ⟨6, 0, none, 0, []⟩)
      have HB7 := hide hal
      have HQ7 := hide ((unhide HU).own.below hal)
      clear hal
      go_wp2_with (at_builtin; refine wpList_appendQ rfl (.tmp 50) (.tmp 52) rfl w.heap.size (.slice qa Q.length qc) Q rfl (unhide HQ7) (.slice (some ⟨wr.heap.size, 0, none⟩) 1 1) [⟨6, 0, none, 0, []⟩] rfl (unhide HSo) ?z9 ?z10 ?_)
      case z9 => rw [unhide HQl]; simp; omega
      try (case z10 => have := (unhide HBr).size; have := (unhide HB7).size; omega)
      intro v8 w8 hO8 hG8
      have HU8 := hide ((unhide HU).step (x := ⟨6, 0, none, 0, []⟩) (unhide HBr).size (unhide HB7) (World.ownsRow_nil _ _ _ _) hO8 hG8)
      have HB8 := hide ((((unhide HBr).trans ((unhide HB7).mono (unhide HBr).size))).grown hG8 (by have := (unhide HBr).size; have := (unhide HB7).size; omega) (fun q e => (World.ownsRow.lt (unhide HU).own q e).1))
      obtain ⟨qa8, qc8, hq8, -⟩ := hO8.at
      obtain ⟨Q8, hQ8⟩ : ∃ Q8, Q8 = Q ++ [⟨6, 0, none, 0, []⟩] := ⟨_, rfl⟩
      rw [← hQ8] at hq8 HU8
      subst hq8
      clear hO8 hG8 HSo HQ7 hQ8
      go_wp2
      go_ret2
      refine ⟨.slice qa8 Q8.length qc8, Q8, ret_eT (unhide HE).symm, (unhide HU8).eq ?_, unhide HB8⟩
      rw [unhide HL]
      unfold upA
      rw [← unhide HNe]
      rfl
set_option maxHeartbeats 4000000 in
theorem refUpload_any (ao : Option Addr) (c : Nat) (l : List UInt8) (ch : Int) (w : World) (hb : BAt w ao l) (hlc : l.length ≤ c) (hl : l.length ≤ 140737488351232) :
    Calls Try.prog 22 #[.slice ao l.length c, .int .i64 ch] w (UpPost w (upE l ch) (upR l ch)) := by
  by_cases h1 : ch < 1
  · have hE : upE l ch = 1 := by unfold upE; rw [if_pos (Or.inl h1)]
    have HE := hide hE
    have HL := hide (show upR l ch = [] by unfold upR; rw [hE]; rfl)
    clear hE hb
    go_enter Try.func22, Try.ntmps22
    go_wp2
    go_ret2
    exact ⟨.slice none 0 0, [], ret_eT (unhide HE).symm, (Ups.nil _ _).eq (unhide HL), Below.refl _ _⟩
  by_cases h2 : 255 < ch
  · have hE : upE l ch = 1 := by unfold upE; rw [if_pos (Or.inr h2)]
    have HE := hide hE
    have HL := hide (show upR l ch = [] by unfold upR; rw [hE]; rfl)
    clear hE hb
    go_enter Try.func22, Try.ntmps22
    go_wp2
    go_ret2
    exact ⟨.slice none 0 0, [], ret_eT (unhide HE).symm, (Ups.nil _ _).eq (unhide HL), Below.refl _ _⟩
  by_cases h3 : l.length = 0
  · have hE : upE l ch = 4 := by unfold upE; rw [if_neg (by omega), if_pos (Or.inl h3)]
    have HE := hide hE
    have HL := hide (show upR l ch = [] by unfold upR; rw [hE]; rfl)
    clear hE hb
    have i0 : (((l.length : Nat) : Int) == 0) = true := beq_t (by omega)
    clear h3
    go_enter Try.func22, Try.ntmps22
    go_wp2
    go_ret2
    exact ⟨.slice none 0 0, [], ret_eT (unhide HE).symm, (Ups.nil _ _).eq (unhide HL), Below.refl _ _⟩
  by_cases h4 : 4096 < l.length
  · have hE : upE l ch = 4 := by unfold upE; rw [if_neg (by omega), if_pos (Or.inr h4)]
    have HE := hide hE
    have HL := hide (show upR l ch = [] by unfold upR; rw [hE]; rfl)
    clear hE hb
    have i0 : (((l.length : Nat) : Int) == 0) = false := beq_f (by omega)
    have i1 : (4096 : Int) < ((l.length : Nat) : Int) := by omega
    go_enter Try.func22, Try.ntmps22
    go_wp2
    go_ret2
    exact ⟨.slice none 0 0, [], ret_eT (unhide HE).symm, (Ups.nil _ _).eq (unhide HL), Below.refl _ _⟩
  have hE : upE l ch = 0 := by unfold upE; rw [if_neg (by omega), if_neg (by omega)]
  obtain ⟨C, rfl⟩ := Int.eq_ofNat_of_zero_le (show 0 ≤ ch by omega)
  have HE := hide hE
  have HL := hide (show upR l (C : Int) = upA l C by unfold upR; rw [if_pos hE]; rfl)
  have hC1 : 1 ≤ C := by omega
  have hC2 : C ≤ 255 := by omega
  have j1 : (1 : Int) ≤ (C : Int) := by omega
  have j2 : (C : Int) ≤ 255 := by omega
  have j3 : (((l.length : Nat) : Int) == 0) = false := beq_f (by omega)
  have j4 : ((l.length : Nat) : Int) ≤ 4096 := by omega
  have hl0 : 1 ≤ l.length := by omega
  have hl4 : l.length ≤ 4096 := by omega
  obtain ⟨b, off, rfl, -⟩ := hb.head (by omega)
  have HBt := hide hb
  have hN := upN_le hC1 hl4
  have HU0 : Hid (Ups (w.alloc (.cells #[.int .i64 4, .int .i64 ((l.length : Nat) : Int), .slice none 0 0] 24)) w.heap.size (.slice (some ⟨w.heap.size, 0, none⟩) 1 1) [⟨4, ((l.length : Nat) : Int), none, 0, []⟩] (upP l C 0)) := hide
    ⟨⟨by rfl, Or.inr ⟨w.heap.size, 1, _, rfl, Nat.le_refl _, heap_alloc_new w _, Nat.le_refl _, by unfold maxLen; omega, by rfl, by simp [rqV, rqC]⟩⟩, rfl, fun i x hx => by
      match i, hx with
      | 0, hx => simp at hx; subst hx; exact World.ownsRow_nil _ _ _ _, fun i j x y hx hy hij => by
      match i, j, hx, hy with
      | 0, 0, _, _ => omega
      | 0, j + 1, _, hy => simp at hy
      | i + 1, _, hx, _ => simp at hx⟩
  have HB0 : Hid (Below w.heap.size w (w.alloc (.cells #[.int .i64 4, .int .i64 ((l.length : Nat) : Int), .slice none 0 0] 24))) := hide ((Below.refl _ _).alloc (Nat.le_refl _) _)
  clear hE hb h1 h2 h3 h4
  go_enter Try.func22, Try.ntmps22
  go_wp2_with fail
  go_loopw [6, 7] (fun v i wr => ∃ (n a : Nat) (Q : List Rq), a ≤ l.length + 255 ∧ n ≤ 4096 ∧ i = .int .i64 (a : Int) ∧ Hid (a = n * C) ∧ Hid (n ≤ upN l C) ∧ Hid (Ups wr w.heap.size v Q (upP l C n)) ∧ Hid (Below w.heap.size w wr)) (fun _ i _ => l.length + 300 - (intOf i).toNat)
  case atStart => exact ⟨0, 0, _, by omega, by omega, rfl, hide (by omega), hide (Nat.zero_le _), HU0, HB0⟩
  case round =>
    clear HU0 HB0
    obtain ⟨n, a, Q, ha, hn4, rfl, Ha, Hn, HU, HBr⟩ := hrel
    have hQl : Q.length = n + 1 := by rw [← upP_len l C n, ← (unhide HU).pl, List.length_map]
    obtain ⟨qa, qc, hqe, -⟩ := (unhide HU).own.at
    have HQl := hide hQl
    clear hQl
    subst hqe
    by_cases hlt : a < l.length
    · obtain ⟨e, he⟩ : ∃ e, e = min (a + C) l.length := ⟨_, rfl⟩
      have he1 : a < e := by omega
      have he2 : e ≤ l.length := by omega
      have he3 : e ≤ a + C := by omega
      have hde := dat_eq l a C e he hlt
      obtain ⟨d, hd⟩ : ∃ d, d = (l.take e).drop a := ⟨_, rfl⟩
      have hdl : d.length = e - a := by rw [hd, List.length_drop, List.length_take]; omega
      have HSr : Hid (SrcB wr (.slice (some ⟨b, off + a, none⟩) (e - a) (c - a)) d) := hide (Or.inr ⟨_, _, by rw [hdl], by rw [hd]; exact ((((unhide HBt).below' (unhide HBr)).frontT e).dropT a)⟩)
      have HDD : Hid (d = (l.drop a).take C) := hide (by rw [hd]; exact hde)
      have hcase : (e = a + C ∧ (a : Int) + (C : Int) ≤ ((l.length : Nat) : Int)) ∨ (e = l.length ∧ ((l.length : Nat) : Int) < (a : Int) + (C : Int)) := by omega
      have i1 : (a : Int) < ((l.length : Nat) : Int) := by omega
      have i2 : (a : Int) ≤ (e : Int) := by omega
      have i3 : (e : Int) ≤ (c : Int) := by omega
      have i4 : ¬ c = a := by omega
      have Hdl := hide hdl
      have HON : Hid (OwnB wr wr.heap.size (.slice none 0 0) []) := hide (World.ownsRow_nil _ _ _ _)
      have HN1 := hide (upN_more hC1 (by rw [← unhide Ha]; exact hlt))
      have hdl3 : d.length ≤ 300 := by omega
      clear he hde hd hdl
      rcases hcase with ⟨rfl, hx⟩ | ⟨rfl, hx⟩
      all_goals
        go_wp2_with (at_builtin; refine wpList_appendB rfl (.const (.slice none 0 0)) (.tmp 48) rfl wr.heap.size (.slice none 0 0) [] rfl (unhide HON) _ d (by first | rfl | simp [Act.eval]) (unhide HSr) (by simp; omega) (Nat.le_refl _) ?_)
        intro v6 w6 hO6 hG6 hF6 hF7
        have hb6 : Below wr.heap.size wr w6 := below_grown hG6 (Nat.le_refl _) (fun k e => by cases e)
        have hO6' : OwnB w6 wr.heap.size v6 d := by simpa using hO6
        obtain ⟨da, dc, hv, -⟩ := hO6'.at
        subst hv
        have hal : Below w6.heap.size w6 (w6.alloc (.cells #[.int .i64 5, .int .i64 (a : Int), .slice da d.length dc] 24)) := (Below.refl _ _).alloc (Nat.le_refl _) _
        have hb7 := hb6.trans (hal.mono hb6.size)
        have HSo : Hid (SrcQ (w6.alloc (.cells #[.int .i64 5, .int .i64 (a : Int), .slice da d.length dc] 24)) (.slice (some ⟨w6.heap.size, 0, none⟩) 1 1) [⟨5, (a : Int), da, dc, d⟩]) := hide (src_one ⟨5, (a : Int), da, dc, d⟩)
        have HDo : Hid (OwnB (w6.alloc (.cells #[.int .i64 5, .int .i64 (a : Int), .slice da d.length dc] 24)) wr.heap.size (qV ⟨5, (a : Int), da, dc, d⟩) d) := hide (hO6'.below hal)
        have HB7 := hide hb7
        have HQ7 := hide ((unhide HU).own.below hb7)
        clear hO6 hO6' hG6 hF6 hF7 hb6 hal hb7 HSr HON
        go_wp2_with (at_builtin; refine wpList_appendQ rfl (.tmp 43) (.tmp 51) rfl w.heap.size (.slice qa Q.length qc) Q rfl (unhide HQ7) (.slice (some ⟨w6.heap.size, 0, none⟩) 1 1) [⟨5, (a : Int), da, dc, d⟩] rfl (unhide HSo) (by rw [unhide HQl]; simp; omega) (by have := (unhide HBr).size; have := (unhide HB7).size; omega) ?_)
        intro v8 w8 hO8 hG8
        have HU8 := hide ((unhide HU).step (unhide HBr).size (unhide HB7) (unhide HDo) hO8 hG8)
        have HB8 := hide ((((unhide HBr).trans ((unhide HB7).mono (unhide HBr).size))).grown hG8 (by have := (unhide HBr).size; have := (unhide HB7).size; omega) (fun q e => (World.ownsRow.lt (unhide HU).own q e).1))
        have HP8 : Hid (upP l C (n + 1) = upP l C n ++ [qP ⟨5, (a : Int), da, dc, d⟩]) := hide (by
          show upP l C n ++ [(5, ((n * C : Nat) : Int), (l.drop (n * C)).take C)] = _
          rw [← unhide Ha, ← unhide HDD]
          rfl)
        obtain ⟨qa8, qc8, hq8, -⟩ := hO8.at
        subst hq8
        clear hO8 hG8 HSo HDo HQ7
        go_wp2
        go_roundw
        case rel => exact ⟨n + 1, a + C, _, by omega, by have := unhide HN1; omega, by go_num, hide (by rw [Nat.succ_mul, ← unhide Ha]), HN1, hide ((unhide HU8).eq (unhide HP8)), HB8⟩
        case measure => simp [intOf]; omega
    · have i1 : ¬ (a : Int) < ((l.length : Nat) : Int) := by omega
      have HNe := hide (upN_end hC1 (unhide Hn) (by rw [← unhide Ha]; omega))
      have hal : Below wr.heap.size wr (wr.alloc (.cells #[.int .i64 6, .int .i64 0, .slice none 0 0] 24)) := (Below.refl _ _).alloc (Nat.le_refl _) _
      have HSo : Hid (SrcQ (wr.alloc (.cells #[.int .i64 6, .int .i64 0, .slice none 0 0] 24)) (.slice (some ⟨wr.heap.size, 0, none⟩) 1 1) [⟨6, 0, none, 0, []⟩]) := hide (src_one ⟨6, 0, none, 0, []⟩)
      have HB7 := hide hal
      have HQ7 := hide ((unhide HU).own.below hal)
      clear hal
      go_wp2_with (at_builtin; refine wpList_appendQ rfl (.tmp 53) (.tmp 55) rfl w.heap.size (.slice qa Q.length qc) Q rfl (unhide HQ7) (.slice (some ⟨wr.heap.size, 0, none⟩) 1 1) [⟨6, 0, none, 0, []⟩] rfl (unhide HSo) ?z9 ?z10 ?_)
      case z9 => rw [unhide HQl]; simp; omega
      try (case z10 => have := (unhide HBr).size; have := (unhide HB7).size; omega)
      intro v8 w8 hO8 hG8
      have HU8 := hide ((unhide HU).step (x := ⟨6, 0, none, 0, []⟩) (unhide HBr).size (unhide HB7) (World.ownsRow_nil _ _ _ _) hO8 hG8)
      have HB8 := hide ((((unhide HBr).trans ((unhide HB7).mono (unhide HBr).size))).grown hG8 (by have := (unhide HBr).size; have := (unhide HB7).size; omega) (fun q e => (World.ownsRow.lt (unhide HU).own q e).1))
      obtain ⟨qa8, qc8, hq8, -⟩ := hO8.at
      obtain ⟨Q8, hQ8⟩ : ∃ Q8, Q8 = Q ++ [⟨6, 0, none, 0, []⟩] := ⟨_, rfl⟩
      rw [← hQ8] at hq8 HU8
      subst hq8
      clear hO8 hG8 HSo HQ7 hQ8
      go_wp2
      go_ret2
      refine ⟨.slice qa8 Q8.length qc8, Q8, ret_eT (unhide HE).symm, (unhide HU8).eq ?_, unhide HB8⟩
      rw [unhide HL]
      unfold upA
      rw [← unhide HNe]
      rfl
end Go.Proofs.Ytghdefhbncejjaa
