/-
  The contract of cert.Encode: a certificate's bytes, in memory of its own, or the error of Check. Conditions: the entries lie there, each with 24 slots.
-/
import Derived.Test.YtednnfmomhallaaCy1
import Derived.Lib.SlBytesConst
namespace Go.Proofs.Ytednnfmomhallaa
open Go.RowKit

/-- What Check lets through. -/
theorem bod_good {lo : Int} {x : En} (h : bodD lo x = 0) (hd : x.dead = false) : x.fr.lo = lo ∧ 0 ≤ x.fr.he ∧ x.fr.he ≤ 24 - lo ∧ (x.fr.sl.drop (lo + x.fr.he).toNat).all (fun t => t == 0) = true ∧ (x.fr.sl.take (lo + x.fr.he).toNat).all (fun t => isCd (t : Int)) = true := by
  unfold bodD at h
  rw [if_neg (by rw [hd]; simp)] at h
  split at h
  · simp at h
  split at h
  · simp at h
  split at h
  · simp at h
  rename_i h1 h2 h3
  refine ⟨by omega, by omega, by omega, by simpa using h2, by simpa using h3⟩
theorem aft_good {p ahead : Int} (h : aftD p ahead = 0) : 0 ≤ p ∧ p ≤ 4095 ∧ ahead < p := by
  unfold aftD at h
  split at h
  · simp at h
  split at h
  · simp at h
  split at h
  · simp at h
  omega
theorem ckL_good {lo : Int} : ∀ {es : List En} {i : Nat} {ahead : Int}, (ckL lo es i ahead).2 = 0 → ∀ x ∈ es, (0 ≤ x.at_ ∧ x.at_ ≤ 4095) ∧ bodD lo x = 0
  | [], _, _, _, x, hx => by simp at hx
  | y :: es, i, ahead, h, x, hx => by
    unfold ckL at h
    by_cases h1 : aftD y.at_ ahead = 0
    · rw [if_neg (by simpa using h1)] at h
      by_cases h2 : bodD lo y = 0
      · rw [if_neg (by simpa using h2)] at h
        rcases List.mem_cons.1 hx with rfl | hx
        · exact ⟨⟨(aft_good h1).1, (aft_good h1).2.1⟩, h2⟩
        · exact ckL_good h x hx
      · rw [if_pos h2] at h
        exact absurd h h2
    · rw [if_pos h1] at h
      exact absurd h h1
theorem ckC_good {lo : Int} {es : List En} (h : (ckC lo es).2 = 0) : (0 ≤ lo ∧ lo ≤ 16) ∧ es.length ≤ 4096 ∧ (ckL lo es 0 (-1)).2 = 0 := by
  unfold ckC at h
  split at h
  · simp at h
  split at h
  · simp at h
  exact ⟨by omega, by omega, h⟩
theorem ck_en {lo : Int} {es : List En} (h : (ckC lo es).2 = 0) (ho : EsOk es) : ∀ x ∈ es, EnGood x := fun x hx => by
  obtain ⟨h1, _, h3⟩ := ckC_good h
  obtain ⟨h4, h5⟩ := ckL_good h3 x hx
  exact ⟨h4, ho x hx, fun hd => by obtain ⟨e, h6, h7, _⟩ := bod_good h5 hd; omega⟩
theorem encE_len {x : En} (h : EnGood x) : (encE x).length ≤ 28 := by
  unfold encE
  rw [List.length_append, be_length]
  split
  · rw [be_length]; omega
  · rename_i hd
    obtain ⟨h1, h2, h3⟩ := h.fit (by simpa using hd)
    rw [List.length_append, List.length_append, be_length, be_length, flat1_len, List.length_take]
    omega
theorem flatE_len : ∀ {es : List En}, (∀ x ∈ es, EnGood x) → (es.flatMap encE).length ≤ es.length * 28
  | [], _ => by simp
  | x :: es, h => by
    have h1 := encE_len (h x (by simp))
    have h2 := flatE_len (es := es) (fun y hy => h y (List.mem_cons_of_mem _ hy))
    rw [List.flatMap_cons, List.length_append, List.length_cons]
    omega
theorem PW.toBelow {w W : World} {p : Nat} {v : Value} {l : List UInt8} {B : Nat} (h : PW w W p (.slice none 0 0) v l) (hp : B ≤ p) (hB : B ≤ w.heap.size) : Below B w W :=
  h.kept.below (Below.refl B w) hB (fun k hk => by rcases hk with rfl | hk; exact hp; simp [Value.ownBlock] at hk)
theorem PW.join {w V W : World} {p : Nat} {v0 v v' : Value} {l l' : List UInt8} (h : PW w V p v0 v l) (h1 : PW V W p v v' l') : PW w W p v0 v' l' := h.step h1.wr h1.kept h1.own
theorem rowMonoB {w : World} {b b' : Nat} {v : Value} {l : List UInt8} (h : OwnB w b v l) (hb : b' ≤ b) : OwnB w b' v l := by
  rcases h with ⟨h1, h2 | ⟨g, cap, cur, a, h3, rest⟩⟩
  · exact ⟨h1, .inl h2⟩
  · exact ⟨h1, .inr ⟨g, cap, cur, a, Nat.le_trans hb h3, rest⟩⟩
theorem three_at (w : World) (t : TypeId) : BAt (w.alloc (.cells #[.int .u8 112, .int .u8 118, .int .u8 1] t (3, 4))) (some ⟨w.heap.size, 0, none⟩) [112, 118, 1] := by
  have hr := heap_alloc_new w (.cells #[.int .u8 112, .int .u8 118, .int .u8 1] t (3, 4))
  intro i hi
  refine ⟨w.heap.size, 0, rfl, ?_⟩
  rw [cell_of_row _ _ _ _ _ _ hr]
  match i, hi with
  | 0, _ => rfl
  | 1, _ => rfl
  | 2, _ => rfl

set_option maxRecDepth 20000 in
set_option maxHeartbeats 2000000 in
theorem certEncode_any (lo : Int) (ao : Option Addr) (cap : Nat) (es : List En) (w : World) (hE : EsAt w ao es) (ho : EsOk es) (hl : es.length ≤ 4398046511104) :
    Calls Try.prog 12 #[.agg #[.int .i64 lo, .slice ao es.length cap]] w fun e w' => ∃ va, e = .returned (.tuple #[va, .int .i64 (ckC lo es).2]) ∧ OwnB w' w.heap.size va (if (ckC lo es).2 = 0 then encC lo es else []) ∧ Below w.heap.size w w' := by
  have al := (Below.refl w.heap.size w).alloc (Nat.le_refl _) (.cells #[.int .i64 lo, .slice ao es.length cap] 24)
  have HA := hide al
  have HC : Hid (CAt (w.alloc (.cells #[.int .i64 lo, .slice ao es.length cap] 24)) w.heap.size lo (.slice ao es.length cap)) := hide (heap_alloc_new w _)
  have hsz : (w.alloc (.cells #[.int .i64 lo, .slice ao es.length cap] 24)).heap.size = w.heap.size + 1 := by simp
  have HE := hide (hE.below rfl al)
  obtain ⟨R, HR⟩ : ∃ R, Hid (ckC lo es = R) := ⟨_, hide rfl⟩
  have HK := hide (certCheck_any lo ao cap es _ (unhide HE) ho hl)
  rw [unhide HR] at HK ⊢
  clear hE al
  go_enter Try.func12, Try.ntmps12
  go_upto_region 1 with fail
  generalize (w.alloc (.cells #[.int .i64 lo, .slice ao es.length cap] 24)) = W1 at HA HC HE HK hsz ⊢
  go_wp2_with (first | (refine wpList_load_rowG (by kernel_rfl) 24 (.tmp 1) rfl w.heap.size rfl 24 #[.int .i64 lo, .slice ao es.length cap] (0, 0) _ (unhide HC) Try.underlying24 rfl (by kernel_rfl) ?_) | fail)
  refine (unhide HK).mono ?_
  rintro e W2 ⟨rfl, hB2⟩
  have HB2 := hide ((unhide HA).trans (hB2.mono (unhide HA).size))
  have HC2 : Hid (CAt W2 w.heap.size lo (.slice ao es.length cap)) := hide ((hB2.block _ (by omega)).trans (unhide HC))
  have HE2 := hide ((unhide HE).below rfl hB2)
  have s2 : w.heap.size < W2.heap.size := (unhide HC2).lt
  clear hB2 HC HE HK hsz HA
  by_cases hr : R.2 = 0
  · have hck : (ckC lo es).2 = 0 := by rw [unhide HR]; exact hr
    obtain ⟨⟨hl0, hl16⟩, hn4, _⟩ := ckC_good hck
    have HG := hide (ck_en hck ho)
    clear hck
    rw [hr]
    go_wp2_with fail
    refine (New_any W2).mono ?_
    rintro e W3 ⟨rfl, hW3, hB3⟩
    have hs3 := hB3.size
    have HBW : Hid (∀ W v l, PW W3 W W2.heap.size (.slice none 0 0) v l → Below W2.heap.size W2 W) := hide (fun W v l h => hB3.trans (h.toBelow (Nat.le_refl _) hs3))
    have al3 := (Below.refl W3.heap.size W3).alloc (Nat.le_refl _) (.cells #[.int .u8 112, .int .u8 118, .int .u8 1] 5 (3, 4))
    have HP3 := hide ((PW.refl hW3).below al3)
    have HT3 := hide (three_at W3 5)
    have hcv : (convert 31 31 (.slice (some ⟨W3.heap.size, 0, none⟩) 3 3)).run Try.prog (W3.alloc (.cells #[.int .u8 112, .int .u8 118, .int .u8 1] 5)) = .ok (.slice (some ⟨W3.heap.size, 0, none⟩) 3 3) (W3.alloc (.cells #[.int .u8 112, .int .u8 118, .int .u8 1] 5 (3, 4))) := Lib.run_convert_bytes_const W3 31 5 #[.int .u8 112, .int .u8 118, .int .u8 1] 3 3 Try.underlying31 Try.underlying5
    clear hB3 hW3 al3
    go_wp2_with fail
    refine (Put_ok (unhide HP3).wr _ [112, 118, 1] (Or.inr ⟨_, _, rfl, unhide HT3⟩) (by simp)).mono ?_
    rintro e W4 ⟨rfl, v4, a1, a2, a3⟩
    have HP4 := hide ((unhide HP3).step a1 a2 a3)
    have HB4 := hide (unhide HBW _ _ _ (unhide HP4))
    have HC4 : Hid (CAt W4 w.heap.size lo (.slice ao es.length cap)) := hide (((unhide HB4).block _ s2).trans (unhide HC2))
    have k4 := (unhide HC4).c0
    clear a1 a2 a3 HP3 HT3
    go_wp2_with fail
    refine (wByte_u (unhide HP4).wr lo).mono ?_
    rintro e W5 ⟨rfl, v5, a1, a2, a3⟩
    rw [(w_ok1 (n := lo) hl0 (by omega) (by simp)).2] at a1
    have HP5 := hide ((unhide HP4).step a1 a2 a3)
    have HB5 := hide (unhide HBW _ _ _ (unhide HP5))
    have HC5 : Hid (CAt W5 w.heap.size lo (.slice ao es.length cap)) := hide (((unhide HB5).block _ s2).trans (unhide HC2))
    have k5 := (unhide HC5).c1
    clear a1 a2 a3 HP4 HB4 HC4 k4
    go_wp2_with fail
    refine (wWord_u (unhide HP5).wr (es.length : Int)).mono ?_
    rintro e W6 ⟨rfl, v6, a1, a2, a3⟩
    rw [(w_ok2 (n := (es.length : Int)) (by omega) (by omega) (by simp [be_length])).2] at a1
    have HP6 := hide ((unhide HP5).step a1 a2 a3)
    have HB6 := hide (unhide HBW _ _ _ (unhide HP6))
    have HC6 : Hid (CAt W6 w.heap.size lo (.slice ao es.length cap)) := hide (((unhide HB6).block _ s2).trans (unhide HC2))
    have k6 := (unhide HC6).c1
    obtain ⟨L, HL⟩ : ∃ L, Hid ([] ++ [112, 118, 1] ++ be lo 1 ++ be (es.length : Int) 2 = L) := ⟨_, hide rfl⟩
    rw [unhide HL] at HP6
    have hL : L.length = 6 := by rw [← unhide HL]; simp [be_length]
    have HEC : Hid (encC lo es = L ++ es.flatMap encE) := hide (by rw [← unhide HL]; unfold encC; simp [List.append_assoc])
    clear a1 a2 a3 HP5 HB5 HC5 k5
    go_wp2
    go_loopw [34] (fun i wr => ∃ (k : Nat) (u : Value), k ≤ es.length ∧ i = .int .i64 (k : Int) ∧ Hid (PW W3 wr W2.heap.size (.slice none 0 0) u (L ++ (es.take k).flatMap encE))) (fun i _ => es.length - (intOf i).toNat)
    case atStart => exact ⟨0, v6, by omega, rfl, by simpa using HP6⟩
    case round =>
      clear k6 HC6 HB6 HP6
      obtain ⟨k, u, hk, rfl, HP⟩ := hrel
      by_cases hkl : k < es.length
      · have j1 : ((k : Nat) : Int) < ((es.length : Nat) : Int) := by omega
        obtain ⟨x, hx⟩ : ∃ x, es[k]? = some x := ⟨_, List.getElem?_eq_getElem hkl⟩
        have hxo : FrOk x.fr := ho x (List.mem_of_getElem? hx)
        have hxg := unhide HG x (List.mem_of_getElem? hx)
        obtain ⟨b, off, rfl, hrg⟩ := ((unhide HE2).below rfl (unhide HBW _ _ _ (unhide HP))) k x hx
        have hll := enL_len hxo
        have HRG := hide hrg
        have HFL : Hid ((es.take (k + 1)).flatMap encE = (es.take k).flatMap encE ++ encE x) := hide (by rw [List.take_add_one, hx, List.flatMap_append]; simp)
        have hlen : (L ++ (es.take k).flatMap encE).length + 28 ≤ 1048576 := by
          have h1 := flatE_len (es := es.take k) (fun y hy => unhide HG y (List.mem_of_mem_take hy))
          rw [List.length_append, hL]
          rw [List.length_take] at h1
          omega
        have HN : Hid (EAt (wr.alloc (.cells (enA enZ) 42)) wr.heap.size enZ) := hide (EAt.new wr enZ)
        have HN2 := hide ((unhide HN).row x)
        have HPV : Hid (PW W3 ((wr.alloc (.cells (enA enZ) 42)).setRow wr.heap.size (enA x)) W2.heap.size (.slice none 0 0) u (L ++ (es.take k).flatMap encE)) := hide ((unhide HP).below (below_setRow' ((Below.refl wr.heap.size wr).alloc (Nat.le_refl _) _) (Nat.le_refl _) _))
        clear hrg hx
        go_upto_region 11 with (first | (refine wpList_load_mid rfl 42 (.tmp 36) rfl b (off + k * 28) rfl (enL x) _ (unhide HRG) Try.underlying42 rfl (by rw [hll]; kernel_rfl) ?_) | (refine wpList_store_row rfl 42 (.tmp 8) (.tmp 37) rfl wr.heap.size (enA x) rfl rfl 42 (enA enZ) (unhide HN) (sizeEn hxo) (sizeEqEn enZ_ok hxo) (enA_one _) ?_))
        rw [enZ_eq]
        generalize (wr.alloc (.cells (enA enZ) 42)).setRow wr.heap.size (enA x) = V at HN2 HPV ⊢
        generalize wr.heap.size = g at HN2 ⊢
        clear HN HRG HP
        go_wp2_with (first | (refine wpList_load_rowG (by kernel_rfl) 42 (.tmp 8) rfl g rfl 42 (enA x) (0, 0) _ (unhide HN2) Try.underlying42 rfl (sizeEn hxo) ?_) | fail)
        refine (put_any x hxg (unhide HPV).wr hlen).mono ?_
        rintro e W7 ⟨rfl, u7, h7⟩
        have HP7 := hide ((unhide HPV).join h7)
        rw [List.append_assoc, ← unhide HFL] at HP7
        clear h7 HPV HN2 hlen
        go_wp2
        go_roundw
        case rel => exact ⟨k + 1, u7, by omega, by go_num, HP7⟩
        case measure => simp [intOf]; omega
      · have i1 : ¬ ((k : Nat) : Int) < ((es.length : Nat) : Int) := by omega
        have HPE : Hid (PW W3 wr W2.heap.size (.slice none 0 0) u (encC lo es)) := hide (by
          have := unhide HP
          rw [List.take_of_length_le (by omega)] at this
          rw [unhide HEC]
          exact this)
        have HBr := hide (unhide HBW _ _ _ (unhide HPE))
        have hs := (unhide HBr).size
        go_wp2_with fail
        refine (Bytes_any (unhide HPE).wr).mono ?_
        rintro e W8 ⟨rfl, hO8, hB8⟩
        have HO8 : Hid (OwnB W8 w.heap.size (.slice (some ⟨wr.heap.size, 0, none⟩) (encC lo es).length (encC lo es).length) (encC lo es)) := hide (rowMonoB hO8 (by omega))
        have HB8 : Hid (Below w.heap.size w W8) := hide ((unhide HB2).trans (((unhide HBr).trans (hB8.mono hs)).mono (by omega)))
        clear hO8 hB8
        go_wp2
        go_ret2
        exact ⟨.slice (some ⟨wr.heap.size, 0, none⟩) (encC lo es).length (encC lo es).length, rfl, unhide HO8, unhide HB8⟩
  · have b1 : (R.2 != 0) = true := bne_t hr
    go_wp2
    go_ret2
    exact ⟨.slice none 0 0, rfl, World.ownsRow_nil _ _ _ _, unhide HB2⟩
end Go.Proofs.Ytednnfmomhallaa
