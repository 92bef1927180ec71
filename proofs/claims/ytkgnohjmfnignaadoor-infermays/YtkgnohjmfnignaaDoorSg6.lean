/-
  infer.begin and May and provisoref08.May: what the plain function says; nothing old is turned.
-/
import Derived.Test.YtkgnohjmfnignaaDoorSg1
import Derived.Test.YtkgnohjmfnignaaDoorSg2
namespace Go.Proofs.YtkgnohjmfnignaaDoor
open Go.RowKit
set_option maxRecDepth 20000

/-- The first signature's fault. -/
def sgsE (n : Nat) : List Sg → Int
  | [] => 0
  | x :: l => if sgE n x.ps x.rt = 0 then sgsE n l else sgE n x.ps x.rt
theorem sgsE_none {n : Nat} : ∀ {L : List Sg}, (∀ (j : Nat) (x : Sg), L[j]? = some x → sgE n x.ps x.rt = 0) → sgsE n L = 0
  | [], _ => rfl
  | x :: l, h => by
    unfold sgsE
    rw [if_pos (h 0 x rfl)]
    exact sgsE_none (fun j y hy => h (j + 1) y hy)
theorem sgsE_some {n : Nat} : ∀ {L : List Sg} {k : Nat} {x : Sg}, (∀ (j : Nat) (y : Sg), j < k → L[j]? = some y → sgE n y.ps y.rt = 0) → L[k]? = some x → sgE n x.ps x.rt ≠ 0 → sgsE n L = sgE n x.ps x.rt
  | [], k, x, _, hx, _ => by simp at hx
  | y :: l, 0, x, _, hx, hne => by
    simp at hx
    subst hx
    unfold sgsE
    rw [if_neg hne]
  | y :: l, k + 1, x, h, hx, hne => by
    unfold sgsE
    rw [if_pos (h 0 y (by omega) rfl)]
    exact sgsE_some (fun j z hj hz => h (j + 1) z (by omega) hz) hx hne
theorem sgsE_same {n : Nat} : ∀ {L M : List Sg}, SameL L M → sgsE n M = sgsE n L
  | [], [], _ => rfl
  | [], y :: m, h => by have := h.1; simp at this
  | x :: l, [], h => by have := h.1; simp at this
  | x :: l, y :: m, h => by
    have h0 := h.2 0 x y rfl rfl
    have ih : sgsE n m = sgsE n l := sgsE_same ⟨by have := h.1; simpa using this, fun i a b ha hb => h.2 (i + 1) a b ha hb⟩
    unfold sgsE
    rw [h0.ps, h0.rt, ih]
def prmD (L : List Sg) (fn : Int) : List Nat := match L[fn.toNat]? with | some x => x.ps | none => []
/-- What is told at a function's beginning, where the table may be. -/
def begD (n : Nat) (L : List Sg) (fn lo : Int) : Fr × Int :=
  if 64 < L.length then (frZ, 4) else if sgsE n L ≠ 0 then (frZ, sgsE n L) else if fn < 0 ∨ (L.length : Int) ≤ fn then (frZ, 71) else startD n (prmD L fn) lo
theorem begD_same {n : Nat} {L M : List Sg} (h : SameL L M) (fn lo : Int) : begD n M fn lo = begD n L fn lo := by
  unfold begD
  rw [h.1, sgsE_same h]
  by_cases hf : fn < 0 ∨ (L.length : Int) ≤ fn
  · rw [if_pos hf]
    rw [if_pos hf]
  · have : prmD M fn = prmD L fn := by
      unfold prmD
      have h1 := List.getElem?_eq_getElem (show fn.toNat < L.length by omega)
      have h2 := List.getElem?_eq_getElem (show fn.toNat < M.length by have := h.1; omega)
      rw [h1, h2]
      exact (h.2 _ _ _ h1 h2).ps
    rw [this]

theorem frz_noslice {o n c : Nat} {a : Option Addr} (h : (frA frZ)[o]? = some (.slice a n c)) : False := by
  have hm : Value.slice a n c ∈ frL frZ := List.mem_of_getElem? (by simpa [frA] using h)
  simp only [frL, slV, tyV, List.mem_cons, List.mem_map] at hm
  rcases hm with h | h | ⟨t, _, h⟩ <;> cases h
/-- What begin tells. -/
def Beg (T : List Cl) (L : List Sg) (fn lo : Int) (X : Fr) (er : Int) : Prop := (∃ n, IsFirst T n er) ∨ (madeD T = true ∧ (X, er) = begD T.length L fn lo)

set_option maxRecDepth 20000 in
set_option maxHeartbeats 4000000 in
theorem begin_any (ao : Option Addr) (cap : Nat) (T : List Cl) (so : Option Addr) (sc : Nat) (L : List Sg) (fn lo : Int) (w : World) (hT : TabAt w ao T) (hcap : T.length ≤ cap) (hW : WordsAt w) (hz : T.length * 48 ≤ 140737488351232) (hL : SgsAt w so L) (hzl : L.length * 32 ≤ 140737488351232) (hlo : -9223372036854775808 ≤ lo ∧ lo ≤ 9223372036854775807) :
    Calls Tryd.prog 10 #[.agg #[.slice ao T.length cap, .slice so L.length sc, .int .i64 fn], .int .i64 lo] w fun e w' => (∃ X er, e = .returned (frTwo (X, er)) ∧ FrOk X ∧ Beg T L fn lo X er) ∧ Below w.heap.size w w' := by
  have hbz := run_buildZ
  have al1 := (Below.refl w.heap.size w).alloc (Nat.le_refl _) (.cells #[.slice ao T.length cap, .slice so L.length sc, .int .i64 fn] 25)
  have al := al1.alloc (by simp) (.cells (frA frZ) 39)
  have HB := hide al
  have n1 := heap_alloc_new w (.cells #[.slice ao T.length cap, .slice so L.length sc, .int .i64 fn] 25)
  have n2 := FAt.new (w.alloc (.cells #[.slice ao T.length cap, .slice so L.length sc, .int .i64 fn] 25)) frZ
  rw [World.size_alloc] at n2
  have HC : Hid (EBx ((w.alloc (.cells #[.slice ao T.length cap, .slice so L.length sc, .int .i64 fn] 25)).alloc (.cells (frA frZ) 39)) w.heap.size (.slice ao T.length cap) (.slice so L.length sc) fn) := hide ((((Below.refl _ _).alloc (Nat.le_refl _) _).block w.heap.size (by simp)).trans n1)
  have HF := hide n2
  have HT := hide hT
  have HL := hide hL
  have HZ := hide hz
  have HW := hide hW
  have HCAP := hide hcap
  have hll : L.length < 9223372036854775000 := by omega
  clear al1 al n1 n2 hT hL hz hzl hW hcap
  go_enter Tryd.func10, Tryd.ntmps10
  go_upto_region 1 with fail
  rw [frZ_eq]
  generalize ((w.alloc (.cells #[.slice ao T.length cap, .slice so L.length sc, .int .i64 fn] 25)).alloc (.cells (frA frZ) 39)) = W1 at HB HC HF ⊢
  have k0 := (unhide HC).c0
  go_wp2_with fail
  refine (Check_any ao cap T _ ((unhide HT).below (unhide HB)) (unhide HCAP) ((unhide HW).below (unhide HB)) (unhide HZ)).mono ?_
  rintro e W2 ⟨⟨n, er, rfl, h1⟩, hB2⟩
  have HB2 := hide ((unhide HB).trans (hB2.mono (unhide HB).size))
  have HC2 : Hid (EBx W2 w.heap.size (.slice ao T.length cap) (.slice so L.length sc) fn) := hide ((hB2.block _ (unhide HC).lt).trans (unhide HC))
  have HF2 := hide ((unhide HF).below hB2 (unhide HF).lt)
  have HFIN : Hid (∀ (X : Fr) (er : Int) (W : World), FrOk X → Beg T L fn lo X er → FAt W (w.heap.size + 1) frZ → Below w.heap.size w W → (∃ Y er', Ending.returned (frTwo (X, er)) = .returned (frTwo (Y, er')) ∧ FrOk Y ∧ Beg T L fn lo Y er') ∧ Below w.heap.size w (W.setRow (w.heap.size + 1) (frA X))) := hide (fun X er W hX hb _ hB => ⟨⟨X, er, rfl, hX, hb⟩, below_setRow' hB (by omega) _⟩)
  clear hB2 HB HC HF k0 W1
  rcases h1 with ⟨rfl, rfl, hmade⟩ | hfirst
  rotate_left
  · have HBG : Hid (Beg T L fn lo frZ er) := hide (.inl ⟨n, hfirst⟩)
    have b1 : (er != 0) = true := by
      have := hfirst.2.2.2
      simp
      intro e
      have h3 := hfirst.2.2.1
      omega
    clear hfirst
    go_wp2_with (refine wpList_store_row rfl 39 _ _ rfl (w.heap.size + 1) (frA frZ) rfl rfl 39 (frA frZ) (unhide HF2) (sizeFr frZ_ok) rfl (frA_one _) ?_)
    exact bodyPost_ret (v := frTwo (frZ, er)) (results_fr2 rfl _ _ (w.heap.size + 1) frZ er frZ_ok rfl rfl ((unhide HF2).row _)) rfl (unhide HFIN frZ er W2 frZ_ok (unhide HBG) (unhide HF2) (unhide HB2))
  have HMD := hide hmade
  clear hmade
  have k1 := (unhide HC2).c1
  have HBD : Hid (∀ X er, (X, er) = begD T.length L fn lo → Beg T L fn lo X er) := hide (fun X er h => .inr ⟨unhide HMD, h⟩)
  by_cases h64 : 64 < L.length
  · have i1 : ((L.length : Nat) : Int) > 64 := by omega
    have HBG : Hid (Beg T L fn lo frZ 4) := hide (unhide HBD _ _ (by unfold begD; rw [if_pos h64]))
    go_wp2_with (refine wpList_store_row rfl 39 _ _ rfl (w.heap.size + 1) (frA frZ) rfl rfl 39 (frA frZ) (unhide HF2) (sizeFr frZ_ok) rfl (frA_one _) ?_)
    exact bodyPost_ret (v := frTwo (frZ, 4)) (results_fr2 rfl _ _ (w.heap.size + 1) frZ 4 frZ_ok rfl rfl ((unhide HF2).row _)) rfl (unhide HFIN frZ 4 W2 frZ_ok (unhide HBG) (unhide HF2) (unhide HB2))
  have i1 : ¬ ((L.length : Nat) : Int) > 64 := by omega
  have H64 := hide h64
  clear h64
  go_wp2_with fail
  clear k1
  go_loopw [29] (fun i wr => ∃ (k : Nat), k ≤ L.length ∧ i = .int .i64 (k : Int) ∧ Hid (∀ j y, j < k → L[j]? = some y → sgE T.length y.ps y.rt = 0) ∧ Hid (EBx wr w.heap.size (.slice ao T.length cap) (.slice so L.length sc) fn) ∧ Hid (FAt wr (w.heap.size + 1) frZ) ∧ Hid (Below w.heap.size w wr)) (fun i _ => L.length - (intOf i).toNat)
  case atStart => exact ⟨0, by omega, rfl, hide (fun j y h => by omega), HC2, HF2, HB2⟩
  case round =>
    clear HC2 HF2 HB2 W2
    obtain ⟨k, hk, rfl, HK, HC, HF, HB⟩ := hrel
    by_cases hlt : k < L.length
    · have j1 : ((k : Nat) : Int) < ((L.length : Nat) : Int) := by omega
      have hx := List.getElem?_eq_getElem hlt
      obtain ⟨b, off, rfl, hxa⟩ := (unhide HL).below (unhide HB) k _ hx
      have c0 := hxa.c0
      have c1 := hxa.c1
      have HX := hide hx
      have HXA := hide hxa
      generalize L[k] = x at HX HXA c0 c1
      clear hx hxa
      go_upto_region 9 with fail
      obtain ⟨FB, HFB⟩ : ∃ FB, Hid (wr.heap.size = FB) := ⟨_, hide rfl⟩
      obtain ⟨wa, HWa⟩ : ∃ wa, Hid (wr.alloc (Obj.cells #[Value.slice x.po x.ps.length x.pc, Value.int IntKind.u8 x.rt] 35) = wa) := ⟨_, hide rfl⟩
      have hBa : Below wr.heap.size wr wa := by rw [← unhide HWa]; exact (Below.refl _ _).alloc (Nat.le_refl _) _
      have hrow : wa.heap[FB]? = some (.cells #[Value.slice x.po x.ps.length x.pc, Value.int IntKind.u8 x.rt] 35) := by rw [← unhide HWa, ← unhide HFB]; exact heap_alloc_new wr _
      rw [unhide HWa, unhide HFB]
      have s0 : wa.cell? ⟨FB, 0, none⟩ = some (.slice x.po x.ps.length x.pc) := by rw [cell_of_row _ _ _ _ _ _ hrow]; rfl
      have s1 : wa.cell? ⟨FB, 1, none⟩ = some (.int .u8 x.rt) := by rw [cell_of_row _ _ _ _ _ _ hrow]; rfl
      have HCa : Hid (EBx wa w.heap.size (.slice ao T.length cap) (.slice (some ⟨b, off, none⟩) L.length sc) fn) := hide ((hBa.block _ (unhide HC).lt).trans (unhide HC))
      have HFa := hide ((unhide HF).below hBa (unhide HF).lt)
      have HBa := hide ((unhide HB).trans (hBa.mono (unhide HB).size))
      have HCK := hide (checkSig_any ao T.length cap x.po x.pc x.ps x.rt wa ((unhide HXA).ok.prm.below hBa) (unhide HXA).ok.bts (unhide HXA).ok.fit (unhide HXA).ok.res)
      have k0 := (unhide HCa).c0
      clear c0 c1 hBa hrow HWa HC HF HB HFB
      go_wp2_with fail
      refine (unhide HCK).mono ?_
      rintro e w2 ⟨rfl, hB2⟩
      have HC2 : Hid (EBx w2 w.heap.size (.slice ao T.length cap) (.slice (some ⟨b, off, none⟩) L.length sc) fn) := hide ((hB2.block _ (unhide HCa).lt).trans (unhide HCa))
      have HF2 := hide ((unhide HFa).below hB2 (unhide HFa).lt)
      have HB2 := hide ((unhide HBa).trans (hB2.mono (unhide HBa).size))
      clear hB2 HCa HFa HBa k0 s0 s1 HCK
      by_cases h0 : sgE T.length x.ps x.rt = 0
      · have HK2 : Hid (∀ j y, j < k + 1 → L[j]? = some y → sgE T.length y.ps y.rt = 0) := hide (fun j y h1 h2 => by
          by_cases e : j = k
          · rw [e, unhide HX] at h2
            injection h2 with h2
            rw [← h2]; exact h0
          · exact unhide HK j y (by omega) h2)
        rw [h0]
        clear h0 HK HX
        go_wp2
        go_roundw
        case rel => exact ⟨k + 1, by omega, by go_num, HK2, HC2, HF2, HB2⟩
        case measure => simp [intOf]; omega
      · have HBG : Hid (Beg T L fn lo frZ (sgE T.length x.ps x.rt)) := hide (unhide HBD _ _ (by
          have e := sgsE_some (unhide HK) (unhide HX) h0
          unfold begD
          rw [if_neg (unhide H64), e, if_pos h0]))
        have b1 : (sgE T.length x.ps x.rt != 0) = true := by simpa using h0
        clear h0 HK HX
        generalize sgE T.length x.ps x.rt = er at HBG b1 ⊢
        go_wp2_with (refine wpList_store_row rfl 39 _ _ rfl (w.heap.size + 1) (frA frZ) rfl rfl 39 (frA frZ) (unhide HF2) (sizeFr frZ_ok) rfl (frA_one _) ?_)
        exact bodyPost_ret (v := frTwo (frZ, er)) (results_fr2 rfl _ _ (w.heap.size + 1) frZ er frZ_ok rfl rfl ((unhide HF2).row _)) rfl (unhide HFIN frZ er w2 frZ_ok (unhide HBG) (unhide HF2) (unhide HB2))
    · have j1 : ¬ ((k : Nat) : Int) < ((L.length : Nat) : Int) := by omega
      have HS0 : Hid (sgsE T.length L = 0) := hide (sgsE_none (fun j y hy => unhide HK j y (by have := (List.getElem?_eq_some_iff.1 hy).1; omega) hy))
      clear HK
      have k1 := (unhide HC).c1
      have k2 := (unhide HC).c2
      by_cases hf : fn < 0 ∨ (L.length : Int) ≤ fn
      · have HBG : Hid (Beg T L fn lo frZ 71) := hide (unhide HBD _ _ (by unfold begD; rw [if_neg (unhide H64), unhide HS0, if_neg (by simp), if_pos hf]))
        by_cases hf0 : fn < 0
        · clear hf
          go_wp2_with (refine wpList_store_row rfl 39 _ _ rfl (w.heap.size + 1) (frA frZ) rfl rfl 39 (frA frZ) (unhide HF) (sizeFr frZ_ok) rfl (frA_one _) ?_)
          exact bodyPost_ret (v := frTwo (frZ, 71)) (results_fr2 rfl _ _ (w.heap.size + 1) frZ 71 frZ_ok rfl rfl ((unhide HF).row _)) rfl (unhide HFIN frZ 71 wr frZ_ok (unhide HBG) (unhide HF) (unhide HB))
        · have j2 : fn ≥ ((L.length : Nat) : Int) := by omega
          clear hf
          go_wp2_with (refine wpList_store_row rfl 39 _ _ rfl (w.heap.size + 1) (frA frZ) rfl rfl 39 (frA frZ) (unhide HF) (sizeFr frZ_ok) rfl (frA_one _) ?_)
          exact bodyPost_ret (v := frTwo (frZ, 71)) (results_fr2 rfl _ _ (w.heap.size + 1) frZ 71 frZ_ok rfl rfl ((unhide HF).row _)) rfl (unhide HFIN frZ 71 wr frZ_ok (unhide HBG) (unhide HF) (unhide HB))
      · obtain ⟨f, rfl⟩ : ∃ f : Nat, fn = (f : Int) := ⟨fn.toNat, by omega⟩
        have hfl : f < L.length := by omega
        have jf0 : ¬ ((f : Nat) : Int) < 0 := by omega
        have jf1 : ¬ ((f : Nat) : Int) ≥ ((L.length : Nat) : Int) := by omega
        have jf2 : ((f : Nat) : Int) < ((L.length : Nat) : Int) := by omega
        have jf3 : (0 : Int) ≤ ((f : Nat) : Int) := by omega
        have hx := List.getElem?_eq_getElem hfl
        obtain ⟨b, off, rfl, hxa⟩ := (unhide HL).below (unhide HB) f _ hx
        have HE : Hid (begD T.length L (f : Int) lo = startD T.length L[f].ps lo) := hide (by
          unfold begD
          rw [if_neg (unhide H64), unhide HS0, if_neg (by simp), if_neg hf]
          unfold prmD
          rw [show ((f : Nat) : Int).toNat = f from by simp, hx])
        generalize L[f] = x at hxa HE
        have HST := hide (fun W (hW : Below wr.heap.size wr W) => Start_any ao cap T.length x.po x.pc x.ps lo W (hxa.ok.prm.below hW) hxa.ok.bts hxa.ok.fit hlo)
        have HOK := hide (start_okG (n := T.length) hxa.ok.bts lo)
        have HBG : Hid (Beg T L (f : Int) lo (startD T.length x.ps lo).1 (startD T.length x.ps lo).2) := hide (unhide HBD _ _ (by rw [unhide HE]))
        have HE2 : Hid (frTwo (startD T.length x.ps lo) = .tuple #[.agg (frA (startD T.length x.ps lo).1), .int .i64 (startD T.length x.ps lo).2]) := hide rfl
        have c0 := hxa.c0
        clear hf hx hxa HE
        go_upto_region 15 with fail
        generalize (startD T.length x.ps lo).2 = e2 at HBG HE2
        generalize (startD T.length x.ps lo).1 = X at HBG HE2 HOK
        have k0 := (unhide HC).c0
        have l1 := (unhide HC).lt
        have l2 := World.block_lt_of_cell? wr _ c0
        have HST2 := hide (unhide HST wr.drew (belowD (Below.refl _ _) 1))
        rw [unhide HE2] at HST2
        clear HST
        have HC2 : Hid (EBx wr.drew w.heap.size (.slice ao T.length cap) (.slice (some ⟨b, off, none⟩) L.length sc) (f : Int)) := hide (unhide HC)
        have HF2 : Hid (FAt wr.drew (w.heap.size + 1) frZ) := hide (unhide HF)
        have HB2 : Hid (Below w.heap.size w wr.drew) := hide (belowD (unhide HB) 1)
        have c0' : wr.drew.cell? ⟨b, off + f * 2, none⟩ = some (.slice x.po x.ps.length x.pc) := c0
        have l2' : b < wr.drew.heap.size := l2
        refine wp_region_held_drew (S := fun w' => w'.cell? ⟨w.heap.size, 0, none⟩ = some (.slice ao T.length cap) ∧ w'.cell? ⟨w.heap.size, 1, none⟩ = some (.slice (some ⟨b, off, none⟩) L.length sc) ∧ w'.cell? ⟨w.heap.size, 2, none⟩ = some (.int .i64 (f : Int)) ∧ w'.cell? ⟨b, off + f * 2, none⟩ = some (.slice x.po x.ps.length x.pc)) (by kernel_rfl) ⟨k0, k1, k2, c0⟩ (fun hS => ?_)
        clear HC HF HB k0 k1 k2 c0 l1 l2
        generalize wr.drew = Wd at HST2 HC2 HF2 HB2 c0' l2' hS ⊢
        refine wpAnyH_take (i := 0) (v := .pointer (some ⟨w.heap.size, 0, none⟩)) rfl (by kernel_rfl) (by kernel_rfl) (by kernel_rfl) (fun _ _ _ h => h) (Or.inl ⟨by rfl, fun W h => by obtain ⟨h0, h1, h2, h3⟩ := h; go_simp⟩) hS ?_
        refine wpAnyH_take (i := 1) (v := .slice ao T.length cap) rfl (by kernel_rfl) (by kernel_rfl) (by kernel_rfl) (fun _ _ _ h => h) (Or.inl ⟨by rfl, fun W h => by obtain ⟨h0, h1, h2, h3⟩ := h; go_simp⟩) hS ?_
        refine wpAnyH_take (i := 2) (v := .pointer (some ⟨w.heap.size, 1, none⟩)) rfl (by kernel_rfl) (by kernel_rfl) (by kernel_rfl) (fun _ _ _ h => h) (Or.inl ⟨by rfl, fun W h => by obtain ⟨h0, h1, h2, h3⟩ := h; go_simp⟩) hS ?_
        refine wpAnyH_take (i := 3) (v := .slice (some ⟨b, off, none⟩) L.length sc) rfl (by kernel_rfl) (by kernel_rfl) (by kernel_rfl) (fun _ _ _ h => h) (Or.inl ⟨by rfl, fun W h => by obtain ⟨h0, h1, h2, h3⟩ := h; go_simp⟩) hS ?_
        refine wpAnyH_take (i := 4) (v := .pointer (some ⟨w.heap.size, 2, none⟩)) rfl (by kernel_rfl) (by kernel_rfl) (by kernel_rfl) (fun _ _ _ h => h) (Or.inl ⟨by rfl, fun W h => by obtain ⟨h0, h1, h2, h3⟩ := h; go_simp⟩) hS ?_
        refine wpAnyH_take (i := 5) (v := .int .i64 (f : Int)) rfl (by kernel_rfl) (by kernel_rfl) (by kernel_rfl) (fun _ _ _ h => h) (Or.inl ⟨by rfl, fun W h => by obtain ⟨h0, h1, h2, h3⟩ := h; go_simp⟩) hS ?_
        refine wpAnyH_take (i := 6) (v := .pointer (some ⟨b, off + f * 2, none⟩)) rfl (by kernel_rfl) (by kernel_rfl) (by kernel_rfl) (fun _ _ _ h => h) (Or.inl ⟨by rfl, fun W h => by obtain ⟨h0, h1, h2, h3⟩ := h; go_simp⟩) hS ?_
        refine wpAnyH_take (i := 7) (v := .pointer (some ⟨b, off + f * 2, none⟩)) rfl (by kernel_rfl) (by kernel_rfl) (by kernel_rfl) (fun _ _ _ h => h) (Or.inl ⟨by rfl, fun W h => by obtain ⟨h0, h1, h2, h3⟩ := h; go_simp⟩) hS ?_
        refine wpAnyH_take (i := 8) (v := .slice x.po x.ps.length x.pc) rfl (by kernel_rfl) (by kernel_rfl) (by kernel_rfl) (fun _ _ _ h => h) (Or.inl ⟨by rfl, fun W h => by obtain ⟨h0, h1, h2, h3⟩ := h; go_simp⟩) hS ?_
        refine wpAnyH_take (i := 9) (v := .int .i64 lo) rfl (by kernel_rfl) (by kernel_rfl) (by kernel_rfl) (fun _ _ _ h => h) (Or.inl ⟨by rfl, fun W h => by obtain ⟨h0, h1, h2, h3⟩ := h; go_simp⟩) hS ?_
        refine wpAnyH_ready (rs := [10]) (by kernel_rfl) (by simp) ?_
        refine AllReadyH.cons rfl (fun K hK => ?_) AllReadyH.nil
        go_simp
        go_wp2_with (go_at_call 20; refine (unhide HST2).mono ?_; rintro e W3 ⟨rfl, hB3⟩)
        have HC3 : Hid (EBx W3 w.heap.size (.slice ao T.length cap) (.slice (some ⟨b, off, none⟩) L.length sc) (f : Int)) := hide ((hB3.block _ (unhide HC2).lt).trans (unhide HC2))
        have HF3 := hide ((unhide HF2).below hB3 (unhide HF2).lt)
        have HB3 := hide ((unhide HB2).trans (hB3.mono (unhide HB2).size))
        have c3 := (hB3.cell (p := ⟨b, off + f * 2, none⟩) l2').trans c0'
        refine hK.out _ _ ⟨(unhide HC3).c0, (unhide HC3).c1, (unhide HC3).c2, c3⟩ (fun hS2 => ?_)
        clear hK K hS hB3 HC2 HF2 HB2 HST2 c0' l2' Wd
        refine wpAnyH_take (i := 11) (v := .agg (frA X)) rfl (by kernel_rfl) (by kernel_rfl) (by kernel_rfl) (fun _ _ _ h => h) (Or.inl ⟨by rfl, fun W h => by obtain ⟨h0, h1, h2, h3⟩ := h; go_simp⟩) hS2 ?_
        refine wpAnyH_take (i := 12) (v := .int .i64 e2) rfl (by kernel_rfl) (by kernel_rfl) (by kernel_rfl) (fun _ _ _ h => h) (Or.inl ⟨by rfl, fun W h => by obtain ⟨h0, h1, h2, h3⟩ := h; go_simp⟩) hS2 ?_
        refine wpAnyH_ready (rs := [13]) (by kernel_rfl) (by simp) ?_
        refine AllReadyH.cons rfl (fun K hK => ?_) AllReadyH.nil
        rw [if_pos (by rfl)]
        refine wp_store_row 39 _ _ rfl (w.heap.size + 1) (frA X) rfl rfl 39 (frA frZ) (unhide HF3) (sizeFr (unhide HOK)) (sizeEq frZ_ok (unhide HOK)) (frA_one _) ?_
        have HC4 : Hid (EBx (W3.setRow (w.heap.size + 1) (frA X)) w.heap.size (.slice ao T.length cap) (.slice (some ⟨b, off, none⟩) L.length sc) (f : Int)) := hide ((setRow_other _ _ _ _ (by omega)).trans (unhide HC3))
        have hnb : b ≠ w.heap.size + 1 := fun e => by
          rw [e] at c3
          rw [cell_of_row _ _ _ _ _ _ (unhide HF3)] at c3
          exact frz_noslice c3
        have c4 : (W3.setRow (w.heap.size + 1) (frA X)).cell? ⟨b, off + f * 2, none⟩ = some (.slice x.po x.ps.length x.pc) := (cell_setRow_other W3 (w.heap.size + 1) (frA X) ⟨b, off + f * 2, none⟩ hnb).trans c3
        refine hK.out _ _ ⟨(unhide HC4).c0, (unhide HC4).c1, (unhide HC4).c2, c4⟩ (fun hS3 => ?_)
        clear hK K hS2 hnb
        refine wpAnyH_take (i := 14) (v := .int .i64 e2) rfl (by kernel_rfl) (by kernel_rfl) (by kernel_rfl) (fun _ _ _ h => h) (Or.inl ⟨by rfl, fun W h => by obtain ⟨h0, h1, h2, h3⟩ := h; go_simp⟩) hS3 ?_
        refine wpAnyH_done (by kernel_rfl) ?_ _
        clear hS3 c3 c4 HC3 HC4
        go_wp2_with fail
        exact bodyPost_ret (v := frTwo (X, e2)) (results_fr2 rfl _ _ (w.heap.size + 1) X e2 (unhide HOK) rfl rfl ((unhide HF3).row _)) rfl (unhide HFIN X e2 W3 (unhide HOK) (unhide HBG) (unhide HF3) (unhide HB3))
end Go.Proofs.YtkgnohjmfnignaaDoor

namespace Go.Proofs.YtkgnohjmfnignaaDoor
open Go.RowKit

set_option maxRecDepth 20000 in
set_option maxHeartbeats 2000000 in
theorem inferMay_any (ao : Option Addr) (cap : Nat) (T : List Cl) (so : Option Addr) (sc : Nat) (L : List Sg) (fn lo : Int) (w : World) (hT : TabAt w ao T) (hcap : T.length ≤ cap) (hW : WordsAt w) (hz : T.length * 48 ≤ 140737488351232) (hL : SgsAt w so L) (hzl : L.length * 32 ≤ 140737488351232) (hlo : -9223372036854775808 ≤ lo ∧ lo ≤ 9223372036854775807) :
    Calls Tryd.prog 5 #[.agg #[.slice ao T.length cap, .slice so L.length sc, .int .i64 fn], .int .i64 lo] w fun e w' => (∃ X er, e = .returned (.int .i64 er) ∧ Beg T L fn lo X er) ∧ Below w.heap.size w w' := by
  have al := (Below.refl w.heap.size w).alloc (Nat.le_refl _) (.cells #[.slice ao T.length cap, .slice so L.length sc, .int .i64 fn] 25)
  have HB := hide al
  have HC : Hid (EBx (w.alloc (.cells #[.slice ao T.length cap, .slice so L.length sc, .int .i64 fn] 25)) w.heap.size (.slice ao T.length cap) (.slice so L.length sc) fn) := hide (heap_alloc_new w _)
  have HG := hide (begin_any ao cap T so sc L fn lo _ (hT.below al) hcap (hW.below al) hz (hL.below al) hzl hlo)
  clear al hT hL hz hzl hW hcap
  go_enter Tryd.func5, Tryd.ntmps5
  go_upto_region 1 with fail
  generalize (w.alloc (.cells #[.slice ao T.length cap, .slice so L.length sc, .int .i64 fn] 25)) = W1 at HB HC HG ⊢
  go_wp2_with (first | (refine wpList_load_rowG (by kernel_rfl) 25 (.tmp 2) rfl w.heap.size rfl 25 #[.slice ao T.length cap, .slice so L.length sc, .int .i64 fn] (0, 0) _ (unhide HC) Tryd.underlying25 rfl (by kernel_rfl) ?_) | fail)
  refine (unhide HG).mono ?_
  rintro e W2 ⟨⟨X, er, rfl, hX, hBg⟩, hB2⟩
  have HX := hide hX
  have HE : Hid (frTwo (X, er) = .tuple #[.agg (frA X), .int .i64 er]) := hide rfl
  rw [unhide HE]
  have Z : Hid (FAt (W2.alloc (.cells (frA frZ) 39)) W2.heap.size frZ) := hide (FAt.new W2 frZ)
  have hal : Below W2.heap.size W2 (W2.alloc (.cells (frA frZ) 39)) := (Below.refl _ _).alloc (Nat.le_refl _) _
  have hB : Below w.heap.size w W2 := (unhide HB).trans (hB2.mono (unhide HB).size)
  have HB3 : Hid (Below w.heap.size w ((W2.alloc (.cells (frA frZ) 39)).setRow W2.heap.size (frA X))) := hide (below_setRow' (hB.trans (hal.mono hB.size)) hB.size _)
  have HBG := hide hBg
  clear hB hal hB2 hBg hX HG HC HB
  go_wp2_with (refine wpList_store_row rfl 39 _ _ rfl W2.heap.size (frA X) rfl rfl 39 (frA frZ) (unhide Z) (sizeFr (unhide HX)) (sizeEq frZ_ok (unhide HX)) (frA_one _) ?_)
  go_ret
  exact ⟨⟨X, er, rfl, unhide HBG⟩, unhide HB3⟩

theorem sgE_long {n : Nat} {ps : List Nat} {rt : Nat} (h : 8 < ps.length) : sgE n ps rt = 4 := by unfold sgE; rw [if_pos h]
theorem sgE_good {n : Nat} {ps : List Nat} {rt : Nat} (h : ¬ 8 < ps.length) (h2 : sgD n ps rt = true) : sgE n ps rt = 0 := by unfold sgE; rw [if_neg h, if_pos h2]
theorem sgE_bad {n : Nat} {ps : List Nat} {rt : Nat} (h : ¬ 8 < ps.length) (h2 : sgD n ps rt = false) : sgE n ps rt = 22 := by unfold sgE; rw [if_neg h, h2]; rfl

set_option maxRecDepth 20000 in
set_option maxHeartbeats 4000000 in
theorem refMay_any (ao : Option Addr) (cap : Nat) (T : List Cl) (so : Option Addr) (sc : Nat) (L : List Sg) (fn lo : Int) (w : World) (hT : TabAt w ao T) (hz : T.length * 48 ≤ 140737488351232) (hL : SgsAt w so L) (hzl : L.length * 32 ≤ 140737488351232) (hlo : -9223372036854775808 ≤ lo ∧ lo ≤ 9223372036854775807) :
    Calls Tryd.prog 6 #[.agg #[.slice ao T.length cap, .slice so L.length sc, .int .i64 fn], .int .i64 lo] w fun e w' => (∃ X er, e = .returned (.int .i64 er) ∧ Beg T L fn lo X er) ∧ Below w.heap.size w w' := by
  have al := (Below.refl w.heap.size w).alloc (Nat.le_refl _) (.cells #[.slice ao T.length cap, .slice so L.length sc, .int .i64 fn] 25)
  have HB := hide al
  have HC : Hid (EBx (w.alloc (.cells #[.slice ao T.length cap, .slice so L.length sc, .int .i64 fn] 25)) w.heap.size (.slice ao T.length cap) (.slice so L.length sc) fn) := hide (heap_alloc_new w _)
  have HCK := hide (refCheck_any ao cap T _ (hT.below al) hz)
  have HL := hide hL
  have hll : L.length < 9223372036854775000 := by omega
  clear al hT hL hz hzl
  go_enter Tryd.func6, Tryd.ntmps6
  go_upto_region 1 with fail
  generalize (w.alloc (.cells #[.slice ao T.length cap, .slice so L.length sc, .int .i64 fn] 25)) = W1 at HB HC HCK ⊢
  have k0 := (unhide HC).c0
  go_wp2_with fail
  refine (unhide HCK).mono ?_
  rintro e W2 ⟨⟨n, er, rfl, h1⟩, hB2⟩
  have HB2 := hide ((unhide HB).trans (hB2.mono (unhide HB).size))
  have HC2 : Hid (EBx W2 w.heap.size (.slice ao T.length cap) (.slice so L.length sc) fn) := hide ((hB2.block _ (unhide HC).lt).trans (unhide HC))
  clear hB2 HB HC HCK k0 W1
  rcases h1 with ⟨rfl, rfl, hmade⟩ | hfirst
  rotate_left
  · have HBG : Hid (Beg T L fn lo frZ er) := hide (.inl ⟨n, hfirst⟩)
    have b1 : (er != 0) = true := by
      have := hfirst.2.2.2
      simp
      intro e
      have h3 := hfirst.2.2.1
      omega
    clear hfirst
    go_wp2
    go_ret
    exact ⟨⟨frZ, er, rfl, unhide HBG⟩, unhide HB2⟩
  have HMD := hide hmade
  clear hmade
  have k1 := (unhide HC2).c1
  have HBD : Hid (∀ X er, (X, er) = begD T.length L fn lo → Beg T L fn lo X er) := hide (fun X er h => .inr ⟨unhide HMD, h⟩)
  by_cases h64 : 64 < L.length
  · have i1 : ((L.length : Nat) : Int) > 64 := by omega
    have HBG : Hid (Beg T L fn lo frZ 4) := hide (unhide HBD _ _ (by unfold begD; rw [if_pos h64]))
    go_wp2
    go_ret
    exact ⟨⟨frZ, 4, rfl, unhide HBG⟩, unhide HB2⟩
  have i1 : ¬ ((L.length : Nat) : Int) > 64 := by omega
  have H64 := hide h64
  clear h64
  go_wp2_with fail
  clear k1
  go_loopw [7] (fun i wr => ∃ (k : Nat), k ≤ L.length ∧ i = .int .i64 (k : Int) ∧ Hid (∀ (j : Nat) (y : Sg), j < k → L[j]? = some y → sgE T.length y.ps y.rt = 0) ∧ Hid (EBx wr w.heap.size (.slice ao T.length cap) (.slice so L.length sc) fn) ∧ Hid (Below w.heap.size w wr)) (fun i _ => L.length - (intOf i).toNat)
  case atStart => exact ⟨0, by omega, rfl, hide (fun j y h => by omega), HC2, HB2⟩
  case round =>
    clear HC2 HB2 W2
    obtain ⟨k, hk, rfl, HK, HC, HB⟩ := hrel
    have k0 := (unhide HC).c0
    have k1 := (unhide HC).c1
    have l0 := (unhide HC).lt
    by_cases hlt : k < L.length
    · have j1 : ((k : Nat) : Int) < ((L.length : Nat) : Int) := by omega
      have j0 : (0 : Int) ≤ ((k : Nat) : Int) := by omega
      have hx := List.getElem?_eq_getElem hlt
      obtain ⟨b, off, rfl, hxa⟩ := (unhide HL).below (unhide HB) k _ hx
      have c0 := hxa.c0
      have c1 := hxa.c1
      have HX := hide hx
      have HXA := hide hxa
      generalize L[k] = x at HX HXA c0 c1
      clear hx hxa
      by_cases h8 : 8 < x.ps.length
      · have i8 : ((x.ps.length : Nat) : Int) > 8 := by omega
        have HBG : Hid (Beg T L fn lo frZ 4) := hide (unhide HBD _ _ (by
          have e := sgsE_some (unhide HK) (unhide HX) (by rw [sgE_long h8]; decide)
          unfold begD
          rw [if_neg (unhide H64), e, sgE_long h8, if_pos (by decide)]))
        go_wp2
        go_ret
        exact ⟨⟨frZ, 4, rfl, unhide HBG⟩, unhide HB⟩
      have i8 : ¬ ((x.ps.length : Nat) : Int) > 8 := by omega
      have l1 := World.block_lt_of_cell? wr _ c0
      have HSM := hide (fun W (hW : Below wr.heap.size wr W) => SigMay_any ao T.length cap x.po x.pc x.ps x.rt W ((unhide HXA).ok.prm.below hW) (unhide HXA).ok.bts (by omega) (unhide HXA).ok.res)
      go_upto_region 11 with fail
      go_region_held3 (fun w' => w'.cell? ⟨w.heap.size, 0, none⟩ = some (.slice ao T.length cap) ∧ w'.cell? ⟨w.heap.size, 1, none⟩ = some (.slice (some ⟨b, off, none⟩) L.length sc) ∧ w'.cell? ⟨b, off + k * 2, none⟩ = some (.slice x.po x.ps.length x.pc) ∧ w'.cell? ⟨b, off + k * 2 + 1, none⟩ = some (.int .u8 x.rt)) (first | exact ⟨(hB2.cell (p := ⟨w.heap.size, 0, none⟩) l0).trans k0, (hB2.cell (p := ⟨w.heap.size, 1, none⟩) l0).trans k1, (hB2.cell (p := ⟨b, off + k * 2, none⟩) l1).trans c0, (hB2.cell (p := ⟨b, off + k * 2 + 1, none⟩) l1).trans c1⟩ | go_keep) (first | (go_at_call 12; refine (unhide HSM wr.drew (belowD (Below.refl _ _) 1)).mono ?_; rintro e w2 ⟨rfl, hB2⟩) | fail)
      have hBd : Below wr.heap.size wr w2 := (show Below wr.heap.size wr wr.drew from belowD (Below.refl _ _) 1).trans hB2
      have HC2 : Hid (EBx w2 w.heap.size (.slice ao T.length cap) (.slice (some ⟨b, off, none⟩) L.length sc) fn) := hide ((hBd.block _ l0).trans (unhide HC))
      have HB2 := hide ((unhide HB).trans (hBd.mono (unhide HB).size))
      clear hB2 hBd HC HB HSM k0 k1 c0 c1
      cases hd : sgD T.length x.ps x.rt
      · have HBG : Hid (Beg T L fn lo frZ 22) := hide (unhide HBD _ _ (by
          have e := sgsE_some (unhide HK) (unhide HX) (by rw [sgE_bad h8 hd]; decide)
          unfold begD
          rw [if_neg (unhide H64), e, sgE_bad h8 hd, if_pos (by decide)]))
        clear hd
        go_wp2
        go_ret
        exact ⟨⟨frZ, 22, rfl, unhide HBG⟩, unhide HB2⟩
      · have HK2 : Hid (∀ (j : Nat) (y : Sg), j < k + 1 → L[j]? = some y → sgE T.length y.ps y.rt = 0) := hide (fun j y h1 h2 => by
          by_cases e : j = k
          · rw [e, unhide HX] at h2
            injection h2 with h2
            rw [← h2]; exact sgE_good h8 hd
          · exact unhide HK j y (by omega) h2)
        clear hd HK HX
        go_wp2
        go_roundw
        case rel => exact ⟨k + 1, by omega, by go_num, HK2, HC2, HB2⟩
        case measure => simp [intOf]; omega
    · have j1 : ¬ ((k : Nat) : Int) < ((L.length : Nat) : Int) := by omega
      have HS0 : Hid (sgsE T.length L = 0) := hide (sgsE_none (fun j y hy => unhide HK j y (by have := (List.getElem?_eq_some_iff.1 hy).1; omega) hy))
      clear HK
      have k2 := (unhide HC).c2
      by_cases hf : fn < 0 ∨ (L.length : Int) ≤ fn
      · have HBG : Hid (Beg T L fn lo frZ 71) := hide (unhide HBD _ _ (by unfold begD; rw [if_neg (unhide H64), unhide HS0, if_neg (by simp), if_pos hf]))
        by_cases hf0 : fn < 0
        · clear hf
          go_wp2
          go_ret
          exact ⟨⟨frZ, 71, rfl, unhide HBG⟩, unhide HB⟩
        · have j2 : fn ≥ ((L.length : Nat) : Int) := by omega
          clear hf
          go_wp2
          go_ret
          exact ⟨⟨frZ, 71, rfl, unhide HBG⟩, unhide HB⟩
      · obtain ⟨f, rfl⟩ : ∃ f : Nat, fn = (f : Int) := ⟨fn.toNat, by omega⟩
        have hfl : f < L.length := by omega
        have jf0 : ¬ ((f : Nat) : Int) < 0 := by omega
        have jf1 : ¬ ((f : Nat) : Int) ≥ ((L.length : Nat) : Int) := by omega
        have jf2 : ((f : Nat) : Int) < ((L.length : Nat) : Int) := by omega
        have jf3 : (0 : Int) ≤ ((f : Nat) : Int) := by omega
        have hx := List.getElem?_eq_getElem hfl
        obtain ⟨b, off, rfl, hxa⟩ := (unhide HL).below (unhide HB) f _ hx
        have HE : Hid (begD T.length L (f : Int) lo = startD T.length L[f].ps lo) := hide (by
          unfold begD
          rw [if_neg (unhide H64), unhide HS0, if_neg (by simp), if_neg hf]
          unfold prmD
          rw [show ((f : Nat) : Int).toNat = f from by simp, hx])
        generalize L[f] = x at hxa HE
        have HST := hide (fun W (hW : Below wr.heap.size wr W) => refStart_any ao cap T.length x.po x.pc x.ps lo W (hxa.ok.prm.below hW) hxa.ok.bts hxa.ok.fit hlo)
        have HBG : Hid (Beg T L (f : Int) lo (startD T.length x.ps lo).1 (startD T.length x.ps lo).2) := hide (unhide HBD _ _ (by rw [unhide HE]))
        have HE2 : Hid (frTwo (startD T.length x.ps lo) = .tuple #[.agg (frA (startD T.length x.ps lo).1), .int .i64 (startD T.length x.ps lo).2]) := hide rfl
        have c0 := hxa.c0
        have l1 := World.block_lt_of_cell? wr _ c0
        clear hf hx hxa HE
        go_upto_region 15 with fail
        generalize (startD T.length x.ps lo).2 = e2 at HBG HE2
        generalize (startD T.length x.ps lo).1 = X at HBG HE2
        have HST2 := hide (unhide HST wr.drew (belowD (Below.refl _ _) 1))
        rw [unhide HE2] at HST2
        clear HST
        go_region_held3 (fun w' => w'.cell? ⟨w.heap.size, 0, none⟩ = some (.slice ao T.length cap) ∧ w'.cell? ⟨w.heap.size, 1, none⟩ = some (.slice (some ⟨b, off, none⟩) L.length sc) ∧ w'.cell? ⟨w.heap.size, 2, none⟩ = some (.int .i64 (f : Int)) ∧ w'.cell? ⟨b, off + f * 2, none⟩ = some (.slice x.po x.ps.length x.pc)) (first | exact ⟨(hB2.cell (p := ⟨w.heap.size, 0, none⟩) l0).trans k0, (hB2.cell (p := ⟨w.heap.size, 1, none⟩) l0).trans k1, (hB2.cell (p := ⟨w.heap.size, 2, none⟩) l0).trans k2, (hB2.cell (p := ⟨b, off + f * 2, none⟩) l1).trans c0⟩ | go_keep) (first | (go_at_call 13; refine (unhide HST2).mono ?_; rintro e w2 ⟨rfl, hB2⟩) | fail)
        have hBd : Below wr.heap.size wr w2 := (show Below wr.heap.size wr wr.drew from belowD (Below.refl _ _) 1).trans hB2
        have HB2 := hide ((unhide HB).trans (hBd.mono (unhide HB).size))
        clear hB2 hBd HST2
        go_wp2
        go_ret
        exact ⟨⟨X, e2, rfl, unhide HBG⟩, unhide HB2⟩
end Go.Proofs.YtkgnohjmfnignaaDoor
