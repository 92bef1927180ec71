/-
  The walk of the law HeapRings: it returns true for every number and bool, and writes nothing that was there.
-/
import Derived.Test.YtbiofkgdbdjdnaaDoorHq13
namespace Go.Proofs.YtbiofkgdbdjdnaaDoor
open Go.RowKit
set_option maxRecDepth 20000

/-- Records in a row, the first of which are put into the ring. -/
structure RG (h : Hm) (k i m : Nat) (x : Ld) : Prop where
  ok : HmOk h
  room : h.room = 4096
  used : h.used = 2 * (i : Int)
  last : h.last = (i : Int)
  L : h.L = [x]
  len : h.O.length = i
  at_ : ∀ (j : Nat) (o : Ob), h.O[j]? = some o → o.ref = (j : Int) + 1 ∧ o.cls = 0 ∧ o.ps.length = 1 ∧ (j < m → o.ps = [(((j + 1) % k : Nat) : Int) + 1])
theorem RG.add {h h' : Hm} {k i : Nat} {x : Ld} {r er : Int} (H : RG h k i 0 x) (hx : x.bs = [true]) (hi : i < 20) (hA : AddIs h 0 1 h' r er) : RG h' k (i + 1) 0 x := by
  rcases hA with ⟨h0, _⟩ | ⟨hf, _, _, gp, ov, rfl⟩
  · rw [H.room, H.used] at h0; omega
  · refine ⟨H.ok.add gp ov hf (Or.inr ⟨0, rfl, x, by rw [H.L]; rfl, by rw [hx]; rfl⟩), H.room, ?_, ?_, H.L, ?_, ?_⟩
    · show h.used + (1 + ((1 : Nat) : Int)) = _
      rw [H.used]; omega
    · show h.last + 1 = _
      rw [H.last]; omega
    · show (h.O ++ [_]).length = _
      simp [H.len]
    · intro j o ho
      have ho : (h.O ++ [⟨h.last + 1, 0, gp, List.replicate 1 0⟩])[j]? = some o := ho
      by_cases e : j < h.O.length
      · rw [List.getElem?_append_left e] at ho
        exact H.at_ j o ho
      · rw [List.getElem?_append_right (by omega)] at ho
        have e2 : j - h.O.length = 0 := by have := (List.getElem?_eq_some_iff.1 ho).1; simp at this; omega
        rw [e2] at ho
        simp at ho
        subst ho
        refine ⟨?_, rfl, rfl, fun h => by omega⟩
        show h.last + 1 = _
        rw [H.last]
        have := H.len
        omega
theorem RG.find {h : Hm} {k i m : Nat} {x : Ld} (H : RG h k i m x) {j : Nat} (hj : j < i) : ∃ o, h.O[j]? = some o ∧ objD h.O ((j : Int) + 1) = some o := by
  have hl : j < h.O.length := by rw [H.len]; exact hj
  have hx := List.getElem?_eq_getElem hl
  refine ⟨_, hx, ?_⟩
  have := obj_at H.ok.asc hx
  rw [(H.at_ j _ hx).1] at this
  exact this
theorem RG.putE {h : Hm} {k i m : Nat} {x : Ld} (H : RG h k i m x) {j : Nat} (hj : j < i) {v : Int} (hv : 0 ≤ v ∧ v ≤ 100) : putE h.O ((j : Int) + 1) 0 v = 0 := by
  obtain ⟨o, ho, hf⟩ := H.find hj
  have := (H.at_ j o ho).2.2.1
  unfold Go.Proofs.YtbiofkgdbdjdnaaDoor.putE plE
  rw [hf]
  simp only [this]
  rw [if_pos (by simp), if_neg (by omega)]
theorem RG.put {h : Hm} {k m : Nat} {x : Ld} (H : RG h k k m x) (hm : m < k) (hk : k ≤ 20) : RG (putD h ((m : Int) + 1) 0 ((((m + 1) % k : Nat) : Int) + 1)) k k (m + 1) x := by
  have hmod : (m + 1) % k < k := Nat.mod_lt _ (by omega)
  have e := H.putE hm (v := (((m + 1) % k : Nat) : Int) + 1) (by omega)
  have ok := H.ok.putD ((m : Int) + 1) 0 ((((m + 1) % k : Nat) : Int) + 1)
  unfold putD at ok ⊢
  rw [if_pos e] at ok ⊢
  refine ⟨ok, H.room, H.used, H.last, H.L, ?_, ?_⟩
  · show (putO h.O _ _ _).length = _
    unfold putO
    simp [H.len]
  · intro j o ho
    have ho : (putO h.O ((m : Int) + 1) 0 ((((m + 1) % k : Nat) : Int) + 1))[j]? = some o := ho
    unfold putO at ho
    rw [List.getElem?_map] at ho
    cases hq : h.O[j]? with
    | none => rw [hq] at ho; simp at ho
    | some y =>
      rw [hq] at ho
      have hy := H.at_ j y hq
      simp only [Option.map_some, Option.some.injEq] at ho
      by_cases ej : j = m
      · subst ej
        rw [if_pos (by simp [hy.1])] at ho
        subst ho
        refine ⟨hy.1, hy.2.1, by simp [hy.2.2.1], fun _ => ?_⟩
        obtain ⟨a, ha⟩ : ∃ a, y.ps = [a] := by
          match hps : y.ps, hy.2.2.1 with
          | [a], _ => exact ⟨a, rfl⟩
        show y.ps.set 0 _ = _
        rw [ha]
        rfl
      · rw [if_neg (by simp [hy.1]; omega)] at ho
        subst ho
        exact ⟨hy.1, hy.2.1, hy.2.2.1, fun h => hy.2.2.2 (by omega)⟩
theorem keep_yes : ∀ (O : List Ob), keepO O (List.replicate O.length true) = O ∧ goneN O (List.replicate O.length true) = 0
  | [] => ⟨rfl, rfl⟩
  | o :: O => by
    have := keep_yes O
    rw [List.length_cons, List.replicate_succ]
    simp only [keepO, goneN]
    exact ⟨by rw [this.1], this.2⟩
theorem keep_no : ∀ (O : List Ob), keepO O (List.replicate O.length false) = [] ∧ goneN O (List.replicate O.length false) = cellsO O
  | [] => ⟨rfl, rfl⟩
  | o :: O => by
    have := keep_no O
    rw [List.length_cons, List.replicate_succ]
    simp only [keepO, goneN]
    exact ⟨this.1, by rw [this.2]; unfold cellsO; simp⟩
theorem RG.all {h : Hm} {k : Nat} {x : Ld} (H : RG h k k k x) (hx : x.bs = [true]) (hk : 0 < k) : ∀ j, j < k → Rch h [(k : Int)] j := by
  have at1 : ∀ j, j < k → ∃ o, h.O[j]? = some o ∧ o.ref = (j : Int) + 1 ∧ o.cls = 0 ∧ o.ps = [(((j + 1) % k : Nat) : Int) + 1] := fun j hj => by
    have hl : j < h.O.length := by rw [H.len]; exact hj
    have hx := List.getElem?_eq_getElem hl
    have := H.at_ j _ hx
    exact ⟨_, hx, this.1, this.2.1, this.2.2.2 hj⟩
  have lead : (ldOf h 0).bs[0]? = some true := by unfold ldOf; rw [if_neg (by omega), H.L]; simp [hx]
  have step : ∀ j, j < k → Rch h [(k : Int)] j → Rch h [(k : Int)] ((j + 1) % k) := fun j hj hr => by
    obtain ⟨o, ho, _, hc, hp⟩ := at1 j hj
    obtain ⟨o', ho', hr', _⟩ := at1 ((j + 1) % k) (Nat.mod_lt _ hk)
    exact Rch.step hr ho (j := 0) (by rw [hc]; exact lead) (by rw [hp]; rfl) ho' hr'
  have last : Rch h [(k : Int)] (k - 1) := by
    obtain ⟨o, ho, hr, _⟩ := at1 (k - 1) (by omega)
    exact Rch.root ho (by rw [hr]; simp; omega)
  intro j
  induction j with
  | zero =>
    intro _
    have := step (k - 1) (by omega) last
    rw [show k - 1 + 1 = k by omega, Nat.mod_self] at this
    exact this
  | succ j ih =>
    intro hj
    have := step j (by omega) (ih (by omega))
    rw [Nat.mod_eq_of_lt hj] at this
    exact this
theorem RG.kept {h h' : Hm} {k : Nat} {x : Ld} {n er : Int} (H : RG h k k k x) (hx : x.bs = [true]) (hk : 0 < k) (hC : ColIs h [(k : Int)] h' n er) : n = 0 ∧ er = 0 ∧ h'.O.length = k := by
  rcases hC with ⟨⟨r, hr, _, hn⟩, _⟩ | ⟨_, rfl, C, ov, hC, rfl, rfl⟩
  · simp at hr
    subst hr
    obtain ⟨o, ho, _⟩ := H.find (show k - 1 < k by omega)
    exact absurd ((H.at_ _ o ho).1.trans (by omega)) (hn o (List.mem_of_getElem? ho))
  · have e : C = List.replicate h.O.length true := by
      rw [List.eq_replicate_iff]
      refine ⟨hC.1, fun b hb => ?_⟩
      obtain ⟨i, hi, e⟩ := List.mem_iff_getElem.1 hb
      have h1 : C[i]? = some true := (hC.2 i).2 (H.all hx hk i (by have := hC.1; have := H.len; omega))
      rw [List.getElem?_eq_getElem hi] at h1
      injection h1 with h1
      rw [← e, h1]
    rw [e, (keep_yes h.O).2]
    refine ⟨rfl, rfl, ?_⟩
    show (keepO h.O _).length = k
    rw [(keep_yes h.O).1, H.len]
theorem no_rch {h : Hm} {k : Nat} (r : Rch h [] k) : False := by
  induction r with
  | root _ h2 => simp at h2
  | step _ _ _ _ _ _ ih => exact ih
theorem RG.gone {h h' : Hm} {k : Nat} {x : Ld} {n er : Int} (H : RG h k k k x) (hC : ColIs h [] h' n er) : n = 2 * (k : Int) ∧ er = 0 ∧ h'.O.length = 0 := by
  rcases hC with ⟨⟨r, hr, _⟩, _⟩ | ⟨_, rfl, C, ov, hC, rfl, rfl⟩
  · simp at hr
  · have e : C = List.replicate h.O.length false := by
      rw [List.eq_replicate_iff]
      refine ⟨hC.1, fun b hb => ?_⟩
      obtain ⟨i, hi, e⟩ := List.mem_iff_getElem.1 hb
      cases b with
      | false => rfl
      | true => exact (no_rch ((hC.2 i).1 (by rw [List.getElem?_eq_getElem hi, e]))).elim
    rw [e, (keep_no h.O).2]
    refine ⟨?_, rfl, ?_⟩
    · rw [← H.ok.used, H.used]
    · show (keepO h.O _).length = 0
      rw [(keep_no h.O).1]
      rfl
set_option maxRecDepth 20000 in
set_option maxHeartbeats 4000000 in
theorem walkHeapRings {w : World} (hW : WordsAt w) (n : Int) (hn : (Lit.int .u64 n).wf = true) (root : Bool) :
    Calls Tryd.prog 7 #[.int .u64 n, .bool root] w fun e w' => e = .returned (.bool true) ∧ Below w.heap.size w w' := by
  have hn0 : 0 ≤ n := (bounds_u64 hn).1
  obtain ⟨q, hq, hq20⟩ : ∃ q : Nat, Int.tmod n 20 = (q : Int) ∧ q < 20 := ⟨(n % 20).toNat, by rw [Int.tmod_eq_emod_of_nonneg hn0]; omega, by omega⟩
  have HN := hide (one_new w hW 16 (by omega) (one_made16 _) (one_lds16 _) 4096 (by omega))
  clear hW hn hn0
  go_enter Tryd.func7, Tryd.ntmps7
  go_upto_region 2 with fail
  clear hq
  go_wp2_with fail
  refine (unhide HN).mono ?_
  rintro e W3 ⟨g, lv, x, rfl, hH, hx, hB⟩
  have HXB := hide hx
  have HH0 := hide hH
  have HB0 := hide hB
  have HRG0 : Hid (RG (newH 4096 lv [x]) (q + 1) 0 0 x) := hide ⟨newH_ok (by omega) lv (by simp), rfl, rfl, rfl, rfl, rfl, fun j o ho => by simp [newH] at ho⟩
  clear hH hx hB HN
  generalize newH 4096 lv [x] = h0 at HH0 HRG0
  go_wp2_with fail
  go_loopw [30] (fun i wr => ∃ (k : Nat) (h : Hm), k ≤ q + 1 ∧ i = .int .i64 (k : Int) ∧ Hid (HpAt w.heap.size wr g h) ∧ Hid (RG h (q + 1) k 0 x) ∧ Hid (Below w.heap.size w wr)) (fun i _ => q + 1 - (intOf i).toNat)
  case atStart => exact ⟨0, h0, by omega, rfl, HH0, HRG0, HB0⟩
  case round =>
    obtain ⟨k, h, hk, rfl, HH, HRG, HBr⟩ := hrel
    clear HH0 HRG0 HB0
    by_cases hlt : k < q + 1
    · have i1 : ((k : Nat) : Int) < ((q : Nat) : Int) + 1 := by omega
      have HR := hide (Record_any w.heap.size g h 0 wr (unhide HH) (unhide HRG).ok (unhide HBr).size (by rw [(unhide HRG).last]; omega))
      go_wp2_with (go_at_call 31; refine (unhide HR).mono ?_; rintro e W4 ⟨h', r, er, rfl, hI, hH4, hK4⟩)
      have HRG2 : Hid (RG h' (q + 1) (k + 1) 0 x) := hide (by
        rcases hI with ⟨_, _, _, h0⟩ | ⟨j, y, hj, hy, hA⟩
        · rw [(unhide HRG).L] at h0; simp at h0
        · have hj0 : j = 0 := by omega
          subst hj0
          rw [(unhide HRG).L] at hy
          simp at hy
          subst hy
          rw [unhide HXB] at hA
          exact (unhide HRG).add (unhide HXB) (by omega) hA)
      have HH4 := hide hH4
      have HB4 := hide ((unhide HBr).trans hK4.bel)
      clear hI hH4 hK4 HR
      go_wp2
      go_roundw
      case rel => exact ⟨k + 1, h', by omega, by go_num, HH4, HRG2, HB4⟩
      case measure => simp [intOf]; omega
    · have i1 : ¬ ((k : Nat) : Int) < ((q : Nat) : Int) + 1 := by omega
      have HRG1 : Hid (RG h (q + 1) (q + 1) 0 x) := hide (by have := unhide HRG; rw [show k = q + 1 by omega] at this; exact this)
      clear HRG
      go_wp2_with fail
      go_loopw [36] (fun i wr => ∃ (m : Nat) (h : Hm), m ≤ q + 1 ∧ i = .int .i64 (m : Int) ∧ Hid (HpAt w.heap.size wr g h) ∧ Hid (RG h (q + 1) (q + 1) m x) ∧ Hid (Below w.heap.size w wr)) (fun i _ => q + 1 - (intOf i).toNat)
      case atStart => exact ⟨0, h, by omega, rfl, HH, HRG1, HBr⟩
      case round =>
        clear HH HRG1 HBr
        obtain ⟨m, h, hm, rfl, HH, HRG, HBr⟩ := hrel
        by_cases hlt2 : m < q + 1
        · have i2 : ((m : Nat) : Int) < ((q : Nat) : Int) + 1 := by omega
          have hmod : (m + 1) % (q + 1) < q + 1 := Nat.mod_lt _ (by omega)
          have tm : Int.tmod (((m : Nat) : Int) + 1) (((q : Nat) : Int) + 1) = (((m + 1) % (q + 1) : Nat) : Int) := by
            rw [Int.tmod_eq_emod_of_nonneg (by omega), show ((m : Nat) : Int) + 1 = ((m + 1 : Nat) : Int) by omega, show ((q : Nat) : Int) + 1 = ((q + 1 : Nat) : Int) by omega]
            exact (Int.natCast_emod _ _).symm
          have nz : ¬ ((q : Nat) : Int) + 1 = 0 := by omega
          have HP := hide (Put_any w.heap.size g h ((m : Int) + 1) 0 ((((m + 1) % (q + 1) : Nat) : Int) + 1) wr (unhide HH) (unhide HRG).ok (unhide HBr).size)
          rw [(unhide HRG).putE hlt2 (by omega)] at HP
          have HRG2 := hide ((unhide HRG).put hlt2 (by omega))
          generalize (m + 1) % (q + 1) = md at tm HP HRG2 hmod
          go_wp2_with (go_at_call 32; refine (unhide HP).mono ?_; rintro e W4 ⟨rfl, hH4, hK4⟩)
          have HH4 := hide hH4
          have HB4 := hide ((unhide HBr).trans hK4.bel)
          clear hH4 hK4 HP tm nz
          go_wp2
          go_roundw
          case rel => exact ⟨m + 1, _, by omega, by go_num, HH4, HRG2, HB4⟩
          case measure => simp [intOf]; omega
        · have i2 : ¬ ((m : Nat) : Int) < ((q : Nat) : Int) + 1 := by omega
          have HRG1 : Hid (RG h (q + 1) (q + 1) (q + 1) x) := hide (by have := unhide HRG; rw [show m = q + 1 by omega] at this; exact this)
          clear HRG
          cases root with
          | false =>
            have HC := hide (Collect_any w.heap.size g h none 0 [] wr (unhide HH) (unhide HRG1).ok (unhide HBr).size (fun i x hx => by simp at hx) (by simp))
            go_wp2_with fail
            refine (unhide HC).mono ?_
            rintro e W5 ⟨h', n', er, rfl, hI, hH5, hK5⟩
            obtain ⟨e1, e2, e3⟩ := (unhide HRG1).gone hI
            subst e1 e2
            have HB5 := hide ((unhide HBr).trans hK5.bel)
            have HL := hide (Live_any w.heap.size g h' W5 hH5 (by omega))
            have HL0 := hide e3
            clear hI hH5 hK5 e3 HC
            rw [show (2 : Int) * (((q + 1 : Nat) : Nat) : Int) = 2 * (((q : Nat) : Int) + 1) by omega]
            have t1 : ((2 * (((q : Nat) : Int) + 1)) == 2 * (((q : Nat) : Int) + 1)) = true := by simp
            go_wp2_with (go_at_call 17; refine (unhide HL).mono ?_; rintro e W6 ⟨v, rfl, hO, hb6⟩; obtain ⟨va, vc, rfl, _⟩ := hO.at; rw [List.length_map, unhide HL0]; have HB6 := hide ((unhide HB5).trans (hb6.mono (unhide HB5).size)); clear hO hb6)
            go_wp2
            go_ret
            exact ⟨rfl, unhide HB6⟩
          | true =>
            have hal : Below wr.heap.size wr (wr.alloc (.cells #[.int .i64 (((q : Nat) : Int) + 1)] 3)) := (Below.refl _ _).alloc (Nat.le_refl _) _
            have HJ : Hid (JsAt (wr.alloc (.cells #[.int .i64 (((q : Nat) : Int) + 1)] 3)) (some ⟨wr.heap.size, 0, none⟩) [((q + 1 : Nat) : Int)]) := hide (fun i x hx => by
              have hi : i = 0 := by have := (List.getElem?_eq_some_iff.1 hx).1; simp at this; omega
              subst hi
              simp at hx
              subst hx
              exact ⟨wr.heap.size, 0, rfl, (Bx.c (heap_alloc_new wr _) 0 rfl)⟩)
            have HHa := hide ((unhide HH).below hal)
            have HBa := hide ((unhide HBr).trans (hal.mono (unhide HBr).size))
            clear hal
            go_upto_region 18 with fail
            generalize wr.alloc (.cells #[.int .i64 (((q : Nat) : Int) + 1)] 3) = Wa at HJ HHa HBa ⊢
            have HC := hide (Collect_any w.heap.size g h (some ⟨wr.heap.size, 0, none⟩) 1 [((q + 1 : Nat) : Int)] Wa (unhide HHa) (unhide HRG1).ok (unhide HBa).size (unhide HJ) (by simp))
            go_wp2_with fail
            refine (unhide HC).mono ?_
            rintro e W5 ⟨h', n', er, rfl, hI, hH5, hK5⟩
            obtain ⟨e1, e2, e3⟩ := (unhide HRG1).kept (unhide HXB) (by omega) hI
            subst e1 e2
            have HB5 := hide ((unhide HBa).trans hK5.bel)
            have HL := hide (Live_any w.heap.size g h' W5 hH5 (by omega))
            have HL0 := hide e3
            clear hI hH5 hK5 e3 HC
            have t1 : ((((q : Nat) : Int) + 1) == ((q : Nat) : Int) + 1) = true := by simp
            go_wp2_with (go_at_call 17; refine (unhide HL).mono ?_; rintro e W6 ⟨v, rfl, hO, hb6⟩; obtain ⟨va, vc, rfl, _⟩ := hO.at; rw [List.length_map, unhide HL0]; have HB6 := hide ((unhide HB5).trans (hb6.mono (unhide HB5).size)); clear hO hb6)
            go_wp2
            go_ret
            exact ⟨rfl, unhide HB6⟩
end Go.Proofs.YtbiofkgdbdjdnaaDoor
