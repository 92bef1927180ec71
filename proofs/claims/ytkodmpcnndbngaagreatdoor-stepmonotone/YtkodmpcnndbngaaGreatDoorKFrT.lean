/-
  Contracts of frames.Empty, isOfValues and Start and of provisoref03's: what the plain functions say; nothing old is turned.
-/
import Derived.Test.YtkodmpcnndbngaaGreatDoorJFR
import Derived.Test.YtkodmpcnndbngaaGreatDoorJTY
namespace Go.Proofs.YtkodmpcnndbngaaGreatDoor
open Go.RowKit
set_option maxRecDepth 20000

/-- From an address on the cells hold these types. -/
def PAt (w : World) (ao : Option Addr) (l : List Nat) : Prop := ∀ (i t : Nat), l[i]? = some t → ∃ b off, ao = some ⟨b, off, none⟩ ∧ w.cell? ⟨b, off + i, none⟩ = some (.int .u8 (t : Int))
theorem PAt.below {w w' : World} {ao : Option Addr} {l : List Nat} (h : PAt w ao l) (hb : Below w.heap.size w w') : PAt w' ao l := fun i t ht => by
  obtain ⟨b, off, e, hc⟩ := h i t ht
  exact ⟨b, off, e, (hb.cell (p := ⟨b, off + i, none⟩) (World.block_lt_of_cell? w _ hc)).trans hc⟩

def emptyF (lo : Int) : Fr := ⟨lo, 0, List.replicate 24 0⟩
def emptyD (lo : Int) : Fr × Int := if lo < 0 ∨ 16 < lo then (frZ, 1) else (emptyF lo, 0)
theorem empty_ok {lo : Int} (h0 : 0 ≤ lo) (h1 : lo ≤ 16) : FrOk (emptyF lo) := ⟨rfl, fun t ht => by rw [List.eq_of_mem_replicate ht]; omega, by constructor <;> show _ ≤ _ <;> simp only [emptyF] <;> omega, by constructor <;> show _ ≤ _ <;> simp only [emptyF] <;> omega⟩
theorem run_buildL (n : Int) (w : World) : (Instr.build 29 #[(0, .int .i64 n)]).run Tryz.prog w = .ok (.agg (frA (emptyF n))) w := run_build w 29 _ _ (by kernel_rfl)

def startTo (lo : Int) (ps : List Nat) : Nat → Fr
  | 0 => emptyF lo
  | k + 1 => { startTo lo ps k with sl := (startTo lo ps k).sl.set k (ps.getD k 0) }
theorem startTo_ok {lo : Int} (h0 : 0 ≤ lo) (h1 : lo ≤ 16) {ps : List Nat} (hp : ∀ t ∈ ps, t < 256) : ∀ k, FrOk (startTo lo ps k)
  | 0 => empty_ok h0 h1
  | k + 1 => by
    have h := startTo_ok h0 h1 hp k
    refine set_ok h (i := k) ?_
    rw [List.getD_eq_getElem?_getD]
    cases hx : ps[k]? with
    | none => simp
    | some x => exact hp x (List.mem_of_getElem? hx)
def startD (n : Nat) (ps : List Nat) (lo : Int) : Fr × Int :=
  if lo < 0 ∨ 16 < lo ∨ 8 < ps.length ∨ lo < (ps.length : Int) then (frZ, 1) else if ps.all (storedD n) = true then (startTo lo ps ps.length, 0) else (frZ, 1)

set_option maxHeartbeats 400000 in
theorem isOfValues_any (ao : Option Addr) (n cap t : Nat) (w : World) (ht : t < 256) :
    Calls Tryz.prog 117 #[.slice ao n cap, .int .u8 (t : Int)] w fun e w' => e = .returned (.bool (storedD n t)) ∧ w' = w := by
  cases hv : validD n t
  · have HR : Hid (storedD n t = false) := hide (by unfold storedD; rw [hv]; rfl)
    have HV := hide hv
    clear hv
    go_enter Tryz.func117, Tryz.ntmps117
    go_wp2_with fail
    refine (Valid_any ao n cap t _ ht).mono ?_
    rintro e w2 ⟨rfl, rfl⟩
    rw [unhide HV]
    go_wp2
    go_ret
    exact ⟨ret_bool (unhide HR).symm, rfl⟩
  · have HV := hide hv
    have HR : Hid (storedD n t = ((((t : Nat) : Int) != 0) && (((t : Nat) : Int) != 3))) := hide (by
      unfold storedD
      rw [hv]
      by_cases h0 : t = 0
      · subst h0; rfl
      · by_cases h3 : t = 3
        · subst h3; rfl
        · rw [bne_t (show ((t : Nat) : Int) ≠ 0 by omega), bne_t (show ((t : Nat) : Int) ≠ 3 by omega)]; simp [h0, h3])
    by_cases h0 : t = 0
    · have b0 : (((t : Nat) : Int) != 0) = false := bne_f (by omega)
      rw [b0] at HR
      clear hv h0
      go_enter Tryz.func117, Tryz.ntmps117
      go_wp2_with fail
      refine (Valid_any ao n cap t _ ht).mono ?_
      rintro e w2 ⟨rfl, rfl⟩
      rw [unhide HV]
      go_wp2
      go_ret
      exact ⟨ret_bool (unhide HR).symm, rfl⟩
    · have b0 : (((t : Nat) : Int) != 0) = true := bne_t (by omega)
      rw [b0, Bool.true_and] at HR
      clear hv h0
      go_enter Tryz.func117, Tryz.ntmps117
      go_wp2_with fail
      refine (Valid_any ao n cap t _ ht).mono ?_
      rintro e w2 ⟨rfl, rfl⟩
      rw [unhide HV]
      go_wp2
      go_ret
      exact ⟨ret_bool (by rw [unhide HR]), rfl⟩

set_option maxHeartbeats 400000 in
theorem Empty_any (lo : Int) (w : World) :
    Calls Tryz.prog 116 #[.int .i64 lo] w fun e w' => e = .returned (frTwo (emptyD lo)) ∧ Below w.heap.size w w' := by
  have hbz := run_buildZ
  have hbl := run_buildL lo
  have F0 := hide (FAt.new w frZ)
  have HB0 : Hid (Below w.heap.size w (w.alloc (.cells (frA frZ) 29))) := hide ((Below.refl _ _).alloc (Nat.le_refl _) _)
  by_cases h0 : lo < 0
  · have HR : Hid (emptyD lo = (frZ, 1)) := hide (by unfold emptyD; rw [if_pos (Or.inl h0)])
    go_enter Tryz.func116, Tryz.ntmps116
    go_wp2_with (refine wpList_store_row rfl 29 _ _ rfl w.heap.size (frA frZ) rfl rfl 29 (frA frZ) (unhide F0) (sizeFr frZ_ok) (sizeEq frZ_ok frZ_ok) (frA_one _) ?_)
    exact bodyPost_ret (v := frTwo (frZ, 1)) (results_fr2 rfl _ _ w.heap.size frZ 1 frZ_ok rfl rfl ((unhide F0).row _)) rfl ⟨by rw [unhide HR], below_setRow' (unhide HB0) (Nat.le_refl _) _⟩
  by_cases h1 : lo > 16
  · have HR : Hid (emptyD lo = (frZ, 1)) := hide (by unfold emptyD; rw [if_pos (Or.inr h1)])
    go_enter Tryz.func116, Tryz.ntmps116
    go_wp2_with (refine wpList_store_row rfl 29 _ _ rfl w.heap.size (frA frZ) rfl rfl 29 (frA frZ) (unhide F0) (sizeFr frZ_ok) (sizeEq frZ_ok frZ_ok) (frA_one _) ?_)
    exact bodyPost_ret (v := frTwo (frZ, 1)) (results_fr2 rfl _ _ w.heap.size frZ 1 frZ_ok rfl rfl ((unhide F0).row _)) rfl ⟨by rw [unhide HR], below_setRow' (unhide HB0) (Nat.le_refl _) _⟩
  · have HR : Hid (emptyD lo = (emptyF lo, 0)) := hide (by unfold emptyD; rw [if_neg (by omega)])
    have HO := hide (empty_ok (show 0 ≤ lo by omega) (show lo ≤ 16 by omega))
    go_enter Tryz.func116, Tryz.ntmps116
    go_wp2_with (refine wpList_store_row rfl 29 _ _ rfl w.heap.size (frA (emptyF lo)) rfl rfl 29 (frA frZ) (unhide F0) (sizeFr (unhide HO)) (sizeEq frZ_ok (unhide HO)) (frA_one _) ?_)
    exact bodyPost_ret (v := frTwo ((emptyF lo), 0)) (results_fr2 rfl _ _ w.heap.size (emptyF lo) 0 (unhide HO) rfl rfl ((unhide F0).row _)) rfl ⟨by rw [unhide HR], below_setRow' (unhide HB0) (Nat.le_refl _) _⟩

set_option maxHeartbeats 2000000 in
theorem Start_any (ao : Option Addr) (cap n : Nat) (po : Option Addr) (pc : Nat) (ps : List Nat) (lo : Int) (w : World) (hP : PAt w po ps) (hp : ∀ t ∈ ps, t < 256) (hz : ps.length ≤ 140737488351232) (hw : -9223372036854775808 ≤ lo ∧ lo ≤ 9223372036854775807) :
    Calls Tryz.prog 71 #[.slice ao n cap, .slice po ps.length pc, .int .i64 lo] w fun e w' => e = .returned (frTwo (startD n ps lo)) ∧ Below w.heap.size w w' := by
  have hbz := run_buildZ
  have F0 := hide (FAt.new w frZ)
  have HB0 : Hid (Below w.heap.size w (w.alloc (.cells (frA frZ) 29))) := hide ((Below.refl _ _).alloc (Nat.le_refl _) _)
  have HP := hide hP
  have HPB := hide hp
  clear hP hp
  go_enter Tryz.func71, Tryz.ntmps71
  go_wp2_with fail
  rw [frZ_eq]
  generalize (w.alloc (.cells (frA frZ) 29)) = W at F0 HB0 ⊢
  refine (Empty_any lo _).mono ?_
  rintro e W21 ⟨rfl, hB22⟩
  have F23 := hide ((unhide F0).below hB22 (unhide F0).lt)
  have HB24 := hide ((unhide HB0).trans (hB22.mono (unhide HB0).size))
  clear hB22 F0 HB0 W
  have HX : Hid (FrOk (emptyD lo).1) := hide (by
    unfold emptyD
    by_cases h : lo < 0 ∨ 16 < lo
    · rw [if_pos h]; exact frZ_ok
    · rw [if_neg h]; exact empty_ok (by omega) (by omega))
  have HE : Hid (frTwo (emptyD lo) = .tuple #[.agg (frA (emptyD lo).1), .int .i64 (emptyD lo).2]) := hide rfl
  rw [unhide HE]
  by_cases hb : lo < 0 ∨ 16 < lo ∨ 8 < ps.length ∨ lo < (ps.length : Int)
  · have HR : Hid (startD n ps lo = (frZ, 1)) := hide (by unfold startD; rw [if_pos hb])
    have o_z_f : w.heap.size < W21.heap.size := (unhide F23).lt
    have Z25 : Hid (FAt (W21.alloc (.cells (frA frZ) 29)) W21.heap.size frZ) := hide (FAt.new W21 frZ)
    have hal : Below W21.heap.size W21 (W21.alloc (.cells (frA frZ) 29)) := (Below.refl _ _).alloc (Nat.le_refl _) _
    have F26 : Hid (FAt ((W21.alloc (.cells (frA frZ) 29)).setRow W21.heap.size (frA (emptyD lo).1)) w.heap.size frZ) := hide (((unhide F23).below hal (unhide F23).lt).rowOther (emptyD lo).1 (Nat.ne_of_lt (unhide F23).lt))
    have F27 : Hid (FAt ((W21.alloc (.cells (frA frZ) 29)).setRow W21.heap.size (frA (emptyD lo).1)) W21.heap.size (emptyD lo).1) := hide ((unhide Z25).row (emptyD lo).1)
    have HB28 : Hid (Below w.heap.size w ((W21.alloc (.cells (frA frZ) 29)).setRow W21.heap.size (frA (emptyD lo).1))) := hide (below_setRow' ((unhide HB24).trans (hal.mono (unhide HB24).size)) (unhide HB24).size _)
    by_cases h1 : lo < 0 ∨ 16 < lo
    · have b1 : ((emptyD lo).2 != 0) = true := by unfold emptyD; rw [if_pos h1]; rfl
      clear hb h1
      go_wp2_with (first | (refine wpList_store_row rfl 29 _ _ rfl W21.heap.size (frA (emptyD lo).1) rfl rfl 29 (frA frZ) (unhide Z25) (sizeFr (unhide HX)) (sizeEq frZ_ok (unhide HX)) (frA_one _) ?_) | (refine wpList_store_row rfl 29 _ _ rfl w.heap.size (frA frZ) rfl rfl 29 (frA frZ) (unhide F26) (sizeFr frZ_ok) (sizeEq frZ_ok frZ_ok) (frA_one _) ?_))
      exact bodyPost_ret (v := frTwo (frZ, 1)) (results_fr2 rfl _ _ w.heap.size frZ 1 frZ_ok rfl rfl ((unhide F26).row _)) rfl ⟨by rw [unhide HR], below_setRow' (unhide HB28) (Nat.le_refl _) _⟩
    · have b1 : ((emptyD lo).2 != 0) = false := by unfold emptyD; rw [if_neg h1]; rfl
      by_cases h2 : 8 < ps.length
      · have i2 : ((ps.length : Nat) : Int) > 8 := by omega
        clear hb h1
        go_wp2_with (first | (refine wpList_store_row rfl 29 _ _ rfl W21.heap.size (frA (emptyD lo).1) rfl rfl 29 (frA frZ) (unhide Z25) (sizeFr (unhide HX)) (sizeEq frZ_ok (unhide HX)) (frA_one _) ?_) | (refine wpList_store_row rfl 29 _ _ rfl w.heap.size (frA frZ) rfl rfl 29 (frA frZ) (unhide F26) (sizeFr frZ_ok) (sizeEq frZ_ok frZ_ok) (frA_one _) ?_))
        exact bodyPost_ret (v := frTwo (frZ, 1)) (results_fr2 rfl _ _ w.heap.size frZ 1 frZ_ok rfl rfl ((unhide F26).row _)) rfl ⟨by rw [unhide HR], below_setRow' (unhide HB28) (Nat.le_refl _) _⟩
      · have i2 : ¬ ((ps.length : Nat) : Int) > 8 := by omega
        have i3 : ((ps.length : Nat) : Int) > lo := by omega
        clear hb h1
        go_wp2_with (first | (refine wpList_store_row rfl 29 _ _ rfl W21.heap.size (frA (emptyD lo).1) rfl rfl 29 (frA frZ) (unhide Z25) (sizeFr (unhide HX)) (sizeEq frZ_ok (unhide HX)) (frA_one _) ?_) | (refine wpList_store_row rfl 29 _ _ rfl w.heap.size (frA frZ) rfl rfl 29 (frA frZ) (unhide F26) (sizeFr frZ_ok) (sizeEq frZ_ok frZ_ok) (frA_one _) ?_))
        exact bodyPost_ret (v := frTwo (frZ, 1)) (results_fr2 rfl _ _ w.heap.size frZ 1 frZ_ok rfl rfl ((unhide F26).row _)) rfl ⟨by rw [unhide HR], below_setRow' (unhide HB28) (Nat.le_refl _) _⟩
  have hEq : emptyD lo = (emptyF lo, 0) := by unfold emptyD; rw [if_neg (by omega)]
  rw [hEq]
  clear hEq HX HE
  have h0 : 0 ≤ lo := by omega
  have h16 : lo ≤ 16 := by omega
  have i2 : ¬ ((ps.length : Nat) : Int) > 8 := by omega
  have i3 : ¬ ((ps.length : Nat) : Int) > lo := by omega
  have HO := hide (empty_ok h0 h16)
  have HD : Hid (∀ b : Bool, ps.all (storedD n) = b → startD n ps lo = if b = true then (startTo lo ps ps.length, 0) else (frZ, 1)) := hide (fun b hq => by unfold startD; rw [if_neg hb, hq])
  clear hb
  have o_z_f : w.heap.size < W21.heap.size := (unhide F23).lt
  have Z29 : Hid (FAt (W21.alloc (.cells (frA frZ) 29)) W21.heap.size frZ) := hide (FAt.new W21 frZ)
  have hal : Below W21.heap.size W21 (W21.alloc (.cells (frA frZ) 29)) := (Below.refl _ _).alloc (Nat.le_refl _) _
  have F30 : Hid (FAt ((W21.alloc (.cells (frA frZ) 29)).setRow W21.heap.size (frA (emptyF lo))) w.heap.size frZ) := hide (((unhide F23).below hal (unhide F23).lt).rowOther (emptyF lo) (Nat.ne_of_lt (unhide F23).lt))
  have F31 : Hid (FAt ((W21.alloc (.cells (frA frZ) 29)).setRow W21.heap.size (frA (emptyF lo))) W21.heap.size (emptyF lo)) := hide ((unhide Z29).row (emptyF lo))
  have HB32 : Hid (Below w.heap.size w ((W21.alloc (.cells (frA frZ) 29)).setRow W21.heap.size (frA (emptyF lo)))) := hide (below_setRow' ((unhide HB24).trans (hal.mono (unhide HB24).size)) (unhide HB24).size _)
  go_wp2_with (refine wpList_store_row rfl 29 _ _ rfl W21.heap.size (frA (emptyF lo)) rfl rfl 29 (frA frZ) (unhide Z29) (sizeFr (unhide HO)) (sizeEq frZ_ok (unhide HO)) (frA_one _) ?_)
  rw [frZ_eq]
  generalize ((W21.alloc (.cells (frA frZ) 29)).setRow W21.heap.size (frA (emptyF lo))) = W33 at F30 F31 HB32 ⊢
  clear F23 Z29 HB24 hal
  generalize W21.heap.size = g_f at F31 o_z_f ⊢
  clear W21
  go_loopw [33] (fun i wr => ∃ k : Nat, k ≤ ps.length ∧ i = .int .i64 (k : Int) ∧ Hid (∀ j t, j < k → ps[j]? = some t → storedD n t = true) ∧ Hid (FAt wr w.heap.size frZ) ∧ Hid (FAt wr g_f (startTo lo ps k)) ∧ Hid (Below w.heap.size w wr)) (fun i _ => ps.length - (intOf i).toNat)
  case atStart => exact ⟨0, by omega, rfl, hide (fun j t h => by omega), F30, F31, HB32⟩
  case round =>
    clear F30 F31 HB32 W33
    obtain ⟨k, hk, rfl, HK, FZ, FF, HW⟩ := hrel
    by_cases hlt : k < ps.length
    · have j1 : ((k : Nat) : Int) < ((ps.length : Nat) : Int) := by omega
      have j2 : ((k : Nat) : Int) < 24 := by omega
      have hx := List.getElem?_eq_getElem hlt
      have HG : Hid (ps.getD k 0 = ps[k]) := hide (by rw [List.getD_eq_getElem?_getD, hx]; rfl)
      have x256 := unhide HPB _ (List.getElem_mem hlt)
      obtain ⟨b, off, rfl, hc⟩ := unhide HP k _ hx
      have cx : wr.cell? ⟨b, off + k, none⟩ = some (.int .u8 ((ps[k] : Nat) : Int)) := ((unhide HW).cell (p := ⟨b, off + k, none⟩) (World.block_lt_of_cell? w _ hc)).trans hc
      have hX := startTo_ok h0 h16 (unhide HPB) k
      have hlen : k < (startTo lo ps k).sl.length := by rw [hX.len]; omega
      have xm := (unhide FF).slot (List.getElem?_eq_getElem hlen)
      generalize (startTo lo ps k).sl[k] = old at xm
      have zm := (unhide FF).frozen (2 + k)
      have R2 : Hid (FAt (wr.setCell ⟨g_f, 2 + k, none⟩ (.int .u8 ((ps[k] : Nat) : Int))) g_f (startTo lo ps (k + 1))) := hide (by
        show FAt _ _ { startTo lo ps k with sl := (startTo lo ps k).sl.set k (ps.getD k 0) }
        rw [unhide HG]
        exact (unhide FF).set k ps[k])
      have R1 := hide ((unhide FZ).cellOther ⟨g_f, 2 + k, none⟩ (.int .u8 ((ps[k] : Nat) : Int)) (by simp; omega))
      have HW2 := hide ((unhide HW).setCell (p := ⟨g_f, 2 + k, none⟩) (by simp; omega) (.int .u8 ((ps[k] : Nat) : Int)))
      have HXX := hide hx
      generalize ps[k] = x at cx x256 HXX R1 R2 HW2 HG
      clear hx hc hlen hX HG
      go_wp2_with fail
      refine (isOfValues_any ao n cap x _ x256).mono ?_
      rintro e W2 ⟨rfl, rfl⟩
      cases hv : storedD n x
      · have HR : Hid (startD n ps lo = (frZ, 1)) := hide (by
          have : ps.all (storedD n) = false := by
            cases hq : ps.all (storedD n)
            · rfl
            · rw [List.all_eq_true] at hq
              have := hq x (List.mem_of_getElem? (unhide HXX))
              rw [hv] at this
              cases this
          rw [unhide HD _ this]
          rfl)
        clear hv
        go_wp2_with (refine wpList_store_row rfl 29 _ _ rfl w.heap.size (frA frZ) rfl rfl 29 (frA frZ) (unhide FZ) (sizeFr frZ_ok) rfl (frA_one _) ?_)
        exact bodyPost_ret (v := frTwo (frZ, 1)) (results_fr2 rfl _ _ w.heap.size frZ 1 frZ_ok rfl rfl ((unhide FZ).row _)) rfl ⟨by rw [unhide HR], below_setRow' (unhide HW) (Nat.le_refl _) _⟩
      · have HK2 : Hid (∀ j t, j < k + 1 → ps[j]? = some t → storedD n t = true) := hide (fun j t h1 h2 => by
          by_cases e : j = k
          · rw [e, unhide HXX] at h2
            injection h2 with h2
            rw [← h2]; exact hv
          · exact unhide HK j t (by omega) h2)
        clear hv HK HXX
        go_wp2
        go_roundw
        case rel => exact ⟨k + 1, by omega, by go_num, HK2, R1, R2, HW2⟩
        case measure => simp [intOf]; omega
    · have j1 : ¬ ((k : Nat) : Int) < ((ps.length : Nat) : Int) := by omega
      have HR : Hid (startD n ps lo = (startTo lo ps k, 0)) := hide (by
        have : ps.all (storedD n) = true := by
          rw [List.all_eq_true]
          intro t ht
          obtain ⟨j, hj, rfl⟩ := List.getElem_of_mem ht
          exact unhide HK j _ (by omega) (List.getElem?_eq_getElem hj)
        rw [unhide HD _ this, if_pos rfl, show k = ps.length from by omega])
      have HOK := hide (startTo_ok h0 h16 (unhide HPB) k)
      generalize startTo lo ps k = F at FF HR HOK
      go_wp2_with (first | (refine wpList_load_row rfl 29 _ rfl g_f rfl 29 (frA F) (0, 0) _ (unhide FF) Tryz.underlying29 rfl (sizeFr (unhide HOK)) ?_) | (refine wpList_store_row rfl 29 _ _ rfl w.heap.size (frA F) rfl rfl 29 (frA frZ) (unhide FZ) (sizeFr (unhide HOK)) (sizeEq frZ_ok (unhide HOK)) (frA_one _) ?_))
      exact bodyPost_ret (v := frTwo (F, 0)) (results_fr2 rfl _ _ w.heap.size F 0 (unhide HOK) rfl rfl ((unhide FZ).row _)) rfl ⟨by rw [unhide HR], below_setRow' (unhide HW) (Nat.le_refl _) _⟩

end Go.Proofs.YtkodmpcnndbngaaGreatDoor
