/-
  The contract of the reference's Encode: a certificate's bytes, in memory of its own, or the error of Check. Conditions: the entries lie there, each with 24 slots.
-/
import Derived.Test.YtednnfmomhallaaCy2
import Derived.Test.YtednnfmomhallaaCz4
namespace Go.Proofs.Ytednnfmomhallaa
open Go.RowKit

theorem be1_eq' (n : Int) : be n 1 = [byteOf n 0] := rfl
theorem be2_eq' (n : Int) : be n 2 = [byteOf n 1, byteOf n 0] := rfl
theorem rowsB {w w' : World} {base : Nat} {v : Value} {l : List UInt8} (h : OwnB w base v l) (hb : Below w.heap.size w w') : OwnB w' base v l := h.keep (Kept.of_below hb (fun _ => False)) (fun _ _ h => h)
theorem ownB_new (w : World) (l : List UInt8) (hl : l.length ≤ 1000) : OwnB (w.alloc (.cells (bvals l).toArray 5)) w.heap.size (.slice (some ⟨w.heap.size, 0, none⟩) l.length l.length) l := by
  refine ⟨by simp [bvals], .inr ⟨w.heap.size, l.length, (bvals l).toArray, rfl, Nat.le_refl _, heap_alloc_new w _, Nat.le_refl _, by unfold maxLen; omega, by simp [bvals], ?_⟩⟩
  rw [Nat.mul_one]
  exact List.take_of_length_le (by simp [bvals])
theorem bv2 {a : Nat} (ha : a ≤ 4095) : (#[.int .u8 ((a : Int) / 256), .int .u8 ((a : Int) % 256)] : Array Value) = (bvals (be (a : Int) 2)).toArray := by
  have h1 := byteOf_eq (a : Int) 1
  have h0 := byteOf_eq (a : Int) 0
  simp at h0 h1
  simp only [be2_eq', bvals, List.map_cons, List.map_nil]
  rw [h0, h1, show (a : Int) / 256 % 256 = (a : Int) / 256 by omega]
theorem bv1 {a : Nat} (ha : a ≤ 255) : (#[.int .u8 (a : Int)] : Array Value) = (bvals (be (a : Int) 1)).toArray := by
  have h0 := byteOf_eq (a : Int) 0
  simp at h0
  simp only [be1_eq', bvals, List.map_cons, List.map_nil]
  rw [h0, show (a : Int) % 256 = (a : Int) by omega]
theorem bv1h {a : Nat} (ha : a ≤ 255) : (#[.int .u8 1, .int .u8 (a : Int)] : Array Value) = (bvals (be 1 1 ++ be (a : Int) 1)).toArray := by
  have h0 := byteOf_eq (a : Int) 0
  simp at h0
  simp only [be1_eq', bvals, List.map_cons, List.map_nil, List.cons_append, List.nil_append]
  rw [h0, show (a : Int) % 256 = (a : Int) by omega]
  rfl
theorem bv0 : (#[.int .u8 0] : Array Value) = (bvals (be 0 1)).toArray := rfl
theorem bv6 {lo n : Nat} (h1 : lo ≤ 255) (h2 : n ≤ 65535) : (#[.int .u8 112, .int .u8 118, .int .u8 1, .int .u8 (lo : Int), .int .u8 ((n : Int) / 256), .int .u8 ((n : Int) % 256)] : Array Value) = (bvals ([112, 118, 1] ++ (be (lo : Int) 1 ++ be (n : Int) 2))).toArray := by
  have a0 := byteOf_eq (lo : Int) 0
  have b1 := byteOf_eq (n : Int) 1
  have b0 := byteOf_eq (n : Int) 0
  simp at a0 b0 b1
  simp only [be1_eq', be2_eq', bvals, List.map_cons, List.map_nil, List.cons_append, List.nil_append]
  rw [a0, b0, b1, show (lo : Int) % 256 = (lo : Int) by omega, show (n : Int) / 256 % 256 = (n : Int) / 256 by omega]
  rfl
/-- Bytes of one's own under way. -/
structure BW (W2 W : World) (v : Value) (l : List UInt8) : Prop where
  own : OwnB W W2.heap.size v l
  bel : Below W2.heap.size W2 W
theorem BW.below {W2 W W' : World} {v : Value} {l : List UInt8} (h : BW W2 W v l) (hb : Below W.heap.size W W') : BW W2 W' v l := ⟨rowsB h.own hb, h.bel.trans (hb.mono h.bel.size)⟩
theorem BW.step {W2 W W' : World} {v v' : Value} {l l' : List UInt8} (h : BW W2 W v l) (ho : OwnB W' W2.heap.size v' l') (hg : W.grownBy W' v.ownBlock) : BW W2 W' v' l' := ⟨ho, h.bel.grown hg h.bel.size (fun k e => (h.own.lt k e).1)⟩

set_option maxRecDepth 20000 in
set_option maxHeartbeats 4000000 in
theorem refEncode_any (lo : Int) (ao : Option Addr) (cap : Nat) (es : List En) (w : World) (hE : EsAt w ao es) (ho : EsOk es) (hl : es.length ≤ 4398046511104) :
    Calls Try.prog 13 #[.agg #[.int .i64 lo, .slice ao es.length cap]] w fun e w' => ∃ va, e = .returned (.tuple #[va, .int .i64 (ckC lo es).2]) ∧ OwnB w' w.heap.size va (if (ckC lo es).2 = 0 then encC lo es else []) ∧ Below w.heap.size w w' := by
  have al := (Below.refl w.heap.size w).alloc (Nat.le_refl _) (.cells #[.int .i64 lo, .slice ao es.length cap] 24)
  have HA := hide al
  have HC : Hid (CAt (w.alloc (.cells #[.int .i64 lo, .slice ao es.length cap] 24)) w.heap.size lo (.slice ao es.length cap)) := hide (heap_alloc_new w _)
  have hsz : (w.alloc (.cells #[.int .i64 lo, .slice ao es.length cap] 24)).heap.size = w.heap.size + 1 := by simp
  have HE := hide (hE.below rfl al)
  obtain ⟨R, HR⟩ : ∃ R, Hid (ckC lo es = R) := ⟨_, hide rfl⟩
  have HK := hide (refCheckC_any lo ao cap es _ (unhide HE) ho hl)
  rw [unhide HR] at HK ⊢
  clear hE al
  go_enter Try.func13, Try.ntmps13
  go_upto_region 1 with fail
  generalize (w.alloc (.cells #[.int .i64 lo, .slice ao es.length cap] 24)) = W1 at HA HC HE HK hsz ⊢
  go_wp2_with (first | (refine wpList_load_rowG (by kernel_rfl) 24 (.tmp 1) rfl w.heap.size rfl 24 #[.int .i64 lo, .slice ao es.length cap] (0, 0) _ (unhide HC) Try.underlying24 rfl (by kernel_rfl) ?_) | fail)
  refine (unhide HK).mono ?_
  rintro e W2 ⟨rfl, hB2⟩
  have HB2 := hide ((unhide HA).trans (hB2.mono (unhide HA).size))
  have HC2 : Hid (CAt W2 w.heap.size lo (.slice ao es.length cap)) := hide ((hB2.block _ (by omega)).trans (unhide HC))
  have HE2 := hide ((unhide HE).below rfl hB2)
  have s2 : w.heap.size < W2.heap.size := (unhide HC2).lt
  clear hB2 HC HE HK hsz HA
  by_cases hr : R.2 = 0
  · have hck : (ckC lo es).2 = 0 := by rw [unhide HR]; exact hr
    obtain ⟨⟨hl0, hl16⟩, hn4, _⟩ := ckC_good hck
    have HG := hide (ck_en hck ho)
    obtain ⟨ln, rfl⟩ : ∃ ln : Nat, lo = (ln : Int) := ⟨lo.toNat, by omega⟩
    clear hck
    rw [hr]
    have c0 := (unhide HC2).c0
    have c1 := (unhide HC2).c1
    have HH6 := hide (ownB_new W2 ([112, 118, 1] ++ (be (ln : Int) 1 ++ be (es.length : Int) 2)) (by simp [be_length]))
    have al6 := (Below.refl W2.heap.size W2).alloc (Nat.le_refl _) (.cells (bvals ([112, 118, 1] ++ (be (ln : Int) 1 ++ be (es.length : Int) 2))).toArray 5)
    have HW6 : Hid (BW W2 (W2.alloc (.cells (bvals ([112, 118, 1] ++ (be (ln : Int) 1 ++ be (es.length : Int) 2))).toArray 5)) (.slice (some ⟨W2.heap.size, 0, none⟩) 6 6) ([112, 118, 1] ++ (be (ln : Int) 1 ++ be (es.length : Int) 2))) := hide ⟨by have := unhide HH6; rwa [show ([112, 118, 1] ++ (be (ln : Int) 1 ++ be (es.length : Int) 2) : List UInt8).length = 6 by simp [be_length]] at this, al6⟩
    rw [← bv6 (by omega) (by omega)] at HW6
    have HEC : Hid (encC (ln : Int) es = ([112, 118, 1] ++ (be (ln : Int) 1 ++ be (es.length : Int) 2)) ++ es.flatMap encE) := hide (by unfold encC; simp [List.append_assoc])
    obtain ⟨L, HL⟩ : ∃ L : List UInt8, Hid ([112, 118, 1] ++ (be (ln : Int) 1 ++ be (es.length : Int) 2) = L) := ⟨_, hide rfl⟩
    have hL : L.length = 6 := by rw [← unhide HL]; simp [be_length]
    rw [unhide HL] at HW6 HEC
    clear al6 HH6
    go_upto_region 6 with fail
    generalize (W2.alloc (.cells #[.int .u8 112, .int .u8 118, .int .u8 1, .int .u8 (ln : Int), .int .u8 ((es.length : Int) / 256), .int .u8 ((es.length : Int) % 256)] 5)) = W6 at HW6 ⊢
    clear c0 c1
    go_wp2
    go_loopw [7, 8] (fun z i wr => ∃ (k : Nat) (v : Value), k ≤ es.length ∧ i = .int .i64 (k : Int) ∧ v = z ∧ Hid (BW W2 wr v (L ++ (es.take k).flatMap encE))) (fun _ i _ => es.length - (intOf i).toNat)
    case atStart => exact ⟨0, _, by omega, rfl, rfl, by simpa using HW6⟩
    case round =>
      clear HW6
      obtain ⟨k, v, hk, rfl, rfl, HW⟩ := hrel
      by_cases hkl : k < es.length
      · have j1 : ((k : Nat) : Int) < ((es.length : Nat) : Int) := by omega
        obtain ⟨x, hx⟩ : ∃ x, es[k]? = some x := ⟨_, List.getElem?_eq_getElem hkl⟩
        have hxo : FrOk x.fr := ho x (List.mem_of_getElem? hx)
        have hxg := unhide HG x (List.mem_of_getElem? hx)
        obtain ⟨b, off, rfl, hrg⟩ := ((unhide HE2).below rfl (unhide HW).bel) k x hx
        have hll := enL_len hxo
        have HRG := hide hrg
        have HFL : Hid ((es.take (k + 1)).flatMap encE = (es.take k).flatMap encE ++ encE x) := hide (by rw [List.take_add_one, hx, List.flatMap_append]; simp)
        have hlen : (L ++ (es.take k).flatMap encE).length ≤ 120000 := by
          have h1 := flatE_len (es := es.take k) (fun y hy => unhide HG y (List.mem_of_mem_take hy))
          rw [List.length_append, hL]
          rw [List.length_take] at h1
          omega
        obtain ⟨M, HMe⟩ : ∃ M, Hid (L ++ (es.take k).flatMap encE = M) := ⟨_, hide rfl⟩
        have HMx : Hid (L ++ (es.take (k + 1)).flatMap encE = M ++ encE x) := hide (by rw [unhide HFL, ← List.append_assoc, unhide HMe])
        rw [unhide HMe] at HW hlen
        have HC9 : Hid (CAt wr w.heap.size (ln : Int) (.slice (some ⟨b, off, none⟩) es.length cap)) := hide (((unhide HW).bel.block _ s2).trans (unhide HC2))
        have q1 := (unhide HC9).c1
        have HN : Hid (EAt (wr.alloc (.cells (enA enZ) 42)) wr.heap.size enZ) := hide (EAt.new wr enZ)
        have HN2 := hide ((unhide HN).row x)
        have hbV := below_setRow' ((Below.refl wr.heap.size wr).alloc (Nat.le_refl _) (.cells (enA enZ) 42)) (Nat.le_refl _) (enA x)
        have HWV := hide ((unhide HW).below hbV)
        have HVq := hide (fun e => (Nat.lt_irrefl _ ((unhide HW).own.lt wr.heap.size e).2))
        clear hrg hbV hx
        go_upto_region 10 with (first | (refine wpList_load_mid rfl 42 (.tmp 40) rfl b (off + k * 28) rfl (enL x) _ (unhide HRG) Try.underlying42 rfl (by rw [hll]; kernel_rfl) ?_) | (refine wpList_store_row rfl 42 (.tmp 9) (.tmp 41) rfl wr.heap.size (enA x) rfl rfl 42 (enA enZ) (unhide HN) (sizeEn hxo) (sizeEqEn enZ_ok hxo) (enA_one _) ?_))
        rw [enZ_eq]
        generalize (wr.alloc (.cells (enA enZ) 42)).setRow wr.heap.size (enA x) = V at HN2 HWV ⊢
        generalize wr.heap.size = q at HN2 HVq ⊢
        clear HN HRG HC9 q1 HW
        obtain ⟨a, haa⟩ : ∃ a : Nat, x.at_ = (a : Int) := ⟨x.at_.toNat, by have := hxg.at0; omega⟩
        have ha4 : a ≤ 4095 := by have := hxg.at0; omega
        have e0 := (unhide HN2).c0
        rw [haa] at e0
        have al7 := (Below.refl V.heap.size V).alloc (Nat.le_refl _) (.cells #[.int .u8 ((a : Int) / 256), .int .u8 ((a : Int) % 256)] 5)
        have HS7 : Hid (SrcB (V.alloc (.cells #[.int .u8 ((a : Int) / 256), .int .u8 ((a : Int) % 256)] 5)) (.slice (some ⟨V.heap.size, 0, none⟩) 2 2) (be (a : Int) 2)) := hide (by rw [bv2 ha4]; have := (ownB_new V (be (a : Int) 2) (by simp [be_length])).src; rwa [be_length] at this)
        have HW7 := hide ((unhide HWV).below al7)
        have HN7 : Hid (EAt (V.alloc (.cells #[.int .u8 ((a : Int) / 256), .int .u8 ((a : Int) % 256)] 5)) q x) := hide ((al7.block q (unhide HN2).lt).trans (unhide HN2))
        have hq7 : q < (V.alloc (.cells #[.int .u8 ((a : Int) / 256), .int .u8 ((a : Int) % 256)] 5)).heap.size := (unhide HN7).lt
        obtain ⟨va, vc, rfl⟩ : ∃ va vc, v = .slice va M.length vc := by obtain ⟨x1, x2, x3, _⟩ := (unhide HW7).own.at; exact ⟨x1, x2, x3⟩
        clear al7
        go_upto_region 11 with (at_builtin; refine wpList_appendB rfl _ _ rfl W2.heap.size _ M rfl (unhide HW7).own _ (be (a : Int) 2) rfl (unhide HS7) (by rw [be_length]; omega) (unhide HW7).bel.size ?_; intro v1 w1 ho1 hg1 hfr1 _)
        have HW1 := hide ((unhide HW7).step ho1 hg1)
        have HN1 : Hid (EAt w1 q x) := hide ((hg1.block q hq7 (fun e => unhide HVq e.symm)).trans (unhide HN7))
        have HV1 : Hid (v1.ownBlock ≠ some q) := hide (not_own hq7 (unhide HVq) hfr1)
        obtain ⟨v1a, v1c, rfl, _⟩ := (unhide HW1).own.at
        have hl1 : (M ++ be (a : Int) 2).length ≤ 120002 := by rw [List.length_append, be_length]; omega
        have d1 := (unhide HN1).c1
        clear ho1 hg1 hfr1 HW7 HN7 HVq HS7 hq7 HWV HN2 e0
        have hfit := hxg.fit
        cases hd : x.dead
        · rw [hd] at d1
          obtain ⟨f1, f2, f3⟩ := hfit hd
          obtain ⟨fl, hfl⟩ : ∃ fl : Nat, x.fr.lo = (fl : Int) := ⟨x.fr.lo.toNat, by omega⟩
          obtain ⟨he, hhe⟩ : ∃ he : Nat, x.fr.he = (he : Int) := ⟨x.fr.he.toNat, by omega⟩
          have HEE : Hid (encE x = be (a : Int) 2 ++ (be 1 1 ++ be (he : Int) 1) ++ (x.fr.sl.take (fl + he)).flatMap fun (t : Nat) => be (t : Int) 1) := hide (by
            unfold encE
            rw [if_neg (by rw [hd]; simp), haa, hfl, hhe, show ((fl : Int) + (he : Int)).toNat = fl + he by omega]
            simp [List.append_assoc])
          have k3 := (unhide HN1).he
          rw [hhe] at k3
          have hhe24 : he ≤ 24 := by omega
          have hf24 : fl + he ≤ 24 := by omega
          have hfl24 : fl ≤ 24 := by omega
          clear f1 f2 f3 hfit hd
          have al8 := (Below.refl w1.heap.size w1).alloc (Nat.le_refl _) (.cells #[.int .u8 1, .int .u8 (he : Int)] 5)
          have HS8 : Hid (SrcB (w1.alloc (.cells #[.int .u8 1, .int .u8 (he : Int)] 5)) (.slice (some ⟨w1.heap.size, 0, none⟩) 2 2) (be 1 1 ++ be (he : Int) 1)) := hide (by rw [bv1h (by omega)]; have := (ownB_new w1 (be 1 1 ++ be (he : Int) 1) (by simp [be_length])).src; rwa [show (be 1 1 ++ be (he : Int) 1).length = 2 by simp [be_length]] at this)
          have HW8 := hide ((unhide HW1).below al8)
          have HN8 : Hid (EAt (w1.alloc (.cells #[.int .u8 1, .int .u8 (he : Int)] 5)) q x) := hide ((al8.block q (unhide HN1).lt).trans (unhide HN1))
          have hq8 : q < (w1.alloc (.cells #[.int .u8 1, .int .u8 (he : Int)] 5)).heap.size := (unhide HN8).lt
          clear al8
          go_upto_region 14 with (at_builtin; refine wpList_appendB rfl _ _ rfl W2.heap.size _ (M ++ be (a : Int) 2) rfl (unhide HW8).own _ (be 1 1 ++ be (he : Int) 1) rfl (unhide HS8) (by simp only [List.length_append, be_length]; omega) (unhide HW8).bel.size ?_; intro v2 w2 ho2 hg2 hfr2 _)
          have HW2 := hide ((unhide HW8).step ho2 hg2)
          have HN3 : Hid (EAt w2 q x) := hide ((hg2.block q hq8 (fun e => unhide HV1 e.symm)).trans (unhide HN8))
          have HV3 : Hid (v2.ownBlock ≠ some q) := hide (not_own hq8 (unhide HV1) hfr2)
          obtain ⟨N, HNe⟩ : ∃ N, Hid (M ++ be (a : Int) 2 ++ (be 1 1 ++ be (he : Int) 1) = N) := ⟨_, hide rfl⟩
          rw [unhide HNe] at HW2
          have hNl : N.length ≤ 120004 := by
            rw [← unhide HNe]
            simp only [List.length_append, be_length]
            omega
          have HMN : Hid (M ++ encE x = N ++ (x.fr.sl.take (fl + he)).flatMap fun (t : Nat) => be (t : Int) 1) := hide (by rw [unhide HEE, ← unhide HNe]; simp [List.append_assoc])
          obtain ⟨n, HNn⟩ : ∃ n : Nat, Hid (fl + he = n) := ⟨_, hide rfl⟩
          have HNi : Hid ((fl : Int) + (he : Int) = (n : Int)) := hide (by have := unhide HNn; omega)
          rw [unhide HNn] at HMN hf24
          clear ho2 hg2 hfr2 HW8 HN8 HV1 HS8 hq8 HEE HW1 HN1 d1 k3 hl1
          go_wp2
          go_loopw [7, 10] (fun z i wq => ∃ (j : Nat) (u : Value), j ≤ n ∧ i = .int .i64 (j : Int) ∧ u = z ∧ Hid (BW W2 wq u (N ++ (x.fr.sl.take j).flatMap fun (t : Nat) => be (t : Int) 1)) ∧ Hid (EAt wq q x) ∧ Hid (u.ownBlock ≠ some q)) (fun _ i _ => n - (intOf i).toNat)
          case atStart => exact ⟨0, _, by omega, rfl, rfl, by simpa using HW2, HN3, HV3⟩
          case round =>
            clear HW2 HN3 HV3
            obtain ⟨j, u, hj, rfl, rfl, HWj, HNj, HVj⟩ := hrel
            have g2 := (unhide HNj).lo
            have g3 := (unhide HNj).he
            rw [hfl] at g2
            rw [hhe] at g3
            by_cases hjn : j < n
            · have i2 : ((j : Nat) : Int) < (fl : Int) + (he : Int) := by rw [unhide HNi]; omega
              have i3 : ((j : Nat) : Int) < ((24 : Nat) : Int) := by omega
              obtain ⟨t, ht⟩ : ∃ t, x.fr.sl[j]? = some t := ⟨_, List.getElem?_eq_getElem (show j < x.fr.sl.length by rw [hxo.len]; omega)⟩
              have g4 := (unhide HNj).slot ht
              have ht8 := hxo.byte t (List.mem_of_getElem? ht)
              have HFs := hide (flat_step ht)
              have hlj : (N ++ (x.fr.sl.take j).flatMap fun (t : Nat) => be (t : Int) 1).length ≤ 130000 := by
                rw [List.length_append, flat1_len, List.length_take]
                omega
              obtain ⟨P, HPe⟩ : ∃ P, Hid ((N ++ (x.fr.sl.take j).flatMap fun (t : Nat) => be (t : Int) 1) = P) := ⟨_, hide rfl⟩
              have HP2 : Hid ((N ++ (x.fr.sl.take (j + 1)).flatMap fun (t : Nat) => be (t : Int) 1) = P ++ be (t : Int) 1) := hide (by rw [unhide HFs, ← List.append_assoc, unhide HPe])
              rw [unhide HPe] at HWj hlj
              have al9 := (Below.refl wr.heap.size wr).alloc (Nat.le_refl _) (.cells #[.int .u8 (t : Int)] 5)
              have HS9 : Hid (SrcB (wr.alloc (.cells #[.int .u8 (t : Int)] 5)) (.slice (some ⟨wr.heap.size, 0, none⟩) 1 1) (be (t : Int) 1)) := hide (by rw [bv1 (by omega)]; have := (ownB_new wr (be (t : Int) 1) (by simp [be_length])).src; rwa [be_length] at this)
              have HW9 := hide ((unhide HWj).below al9)
              have HN9 : Hid (EAt (wr.alloc (.cells #[.int .u8 (t : Int)] 5)) q x) := hide ((al9.block q (unhide HNj).lt).trans (unhide HNj))
              have hq9 : q < (wr.alloc (.cells #[.int .u8 (t : Int)] 5)).heap.size := (unhide HN9).lt
              obtain ⟨ua, uc, rfl⟩ : ∃ ua uc, u = .slice ua P.length uc := by obtain ⟨x1, x2, x3, _⟩ := (unhide HWj).own.at; exact ⟨x1, x2, x3⟩
              clear al9 ht HFs
              go_wp2_with (at_builtin; refine wpList_appendB rfl _ _ rfl W2.heap.size _ P rfl (unhide HW9).own _ (be (t : Int) 1) rfl (unhide HS9) (by rw [be_length]; omega) (unhide HW9).bel.size ?_; intro v3 w3 ho3 hg3 hfr3 _)
              have HWn := hide ((unhide HW9).step ho3 hg3)
              rw [← unhide HP2] at HWn
              have HNn2 : Hid (EAt w3 q x) := hide ((hg3.block q hq9 (fun e => unhide HVj e.symm)).trans (unhide HN9))
              have HVn : Hid (v3.ownBlock ≠ some q) := hide (not_own hq9 (unhide HVj) hfr3)
              clear ho3 hg3 hfr3
              go_roundw
              case rel => exact ⟨j + 1, _, by omega, by go_num, rfl, HWn, HNn2, HVn⟩
              case measure => simp [intOf]; omega
            · have i2 : ¬ ((j : Nat) : Int) < (fl : Int) + (he : Int) := by rw [unhide HNi]; omega
              have HWe : Hid (BW W2 wr u (L ++ (es.take (k + 1)).flatMap encE)) := hide (by
                rw [unhide HMx, unhide HMN]
                have := unhide HWj
                rwa [show j = n by omega] at this)
              go_wp2
              go_roundw
              case rel => exact ⟨k + 1, _, by omega, by go_num, rfl, HWe⟩
              case measure => simp [intOf]; omega
        · rw [hd] at d1
          have HEE : Hid (encE x = be (a : Int) 2 ++ be 0 1) := hide (by unfold encE; rw [if_pos hd, haa])
          have al8 := (Below.refl w1.heap.size w1).alloc (Nat.le_refl _) (.cells #[.int .u8 0] 5)
          have HS8 : Hid (SrcB (w1.alloc (.cells #[.int .u8 0] 5)) (.slice (some ⟨w1.heap.size, 0, none⟩) 1 1) (be 0 1)) := hide (by rw [bv0]; have := (ownB_new w1 (be 0 1) (by simp [be_length])).src; rwa [be_length] at this)
          have HW8 := hide ((unhide HW1).below al8)
          clear al8 hd hfit
          go_wp2_with (at_builtin; refine wpList_appendB rfl _ _ rfl W2.heap.size _ (M ++ be (a : Int) 2) rfl (unhide HW8).own _ (be 0 1) rfl (unhide HS8) (by rw [be_length]; omega) (unhide HW8).bel.size ?_; intro v2 w2 ho2 hg2 hfr2 _)
          have HW2 := hide ((unhide HW8).step ho2 hg2)
          rw [List.append_assoc, ← unhide HEE, ← unhide HMx] at HW2
          clear ho2 hg2 hfr2
          go_roundw
          case rel => exact ⟨k + 1, _, by omega, by go_num, rfl, HW2⟩
          case measure => simp [intOf]; omega
      · have i1 : ¬ ((k : Nat) : Int) < ((es.length : Nat) : Int) := by omega
        have HPE : Hid (BW W2 wr v (encC (ln : Int) es)) := hide (by
          have := unhide HW
          rw [List.take_of_length_le (by omega)] at this
          rw [unhide HEC]
          exact this)
        have HBr : Hid (Below w.heap.size w wr) := hide ((unhide HB2).trans ((unhide HPE).bel.mono (by omega)))
        go_wp2
        go_ret2
        exact ⟨v, rfl, rowMonoB (unhide HPE).own (by omega), unhide HBr⟩
  · have b1 : (R.2 != 0) = true := bne_t hr
    go_wp2
    go_ret2
    exact ⟨.slice none 0 0, rfl, World.ownsRow_nil _ _ _ _, unhide HB2⟩
end Go.Proofs.Ytednnfmomhallaa
