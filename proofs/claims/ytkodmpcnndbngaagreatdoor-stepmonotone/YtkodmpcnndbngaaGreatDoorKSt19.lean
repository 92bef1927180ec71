/-
  step.begins and Apply: the frame behind an instruction, as the plain function says; nothing old is turned.
-/
import Derived.Test.YtkodmpcnndbngaaGreatDoorKSt18
namespace Go.Proofs.YtkodmpcnndbngaaGreatDoor
open Go.RowKit
set_option maxRecDepth 20000

theorem built_24 (ao : Option Addr) (cap : Nat) (T : List Cl) (so : Option Addr) (sc : Nat) (L : List Sg) (fn lo he p : Int) (op : Nat) (a b : Int) (t0 t1 t2 t3 t4 t5 t6 t7 t8 t9 t10 t11 t12 t13 t14 t15 t16 t17 t18 t19 t20 t21 t22 t23 : Nat) : Tryz.prog.built 51 [(0, .agg #[.slice ao T.length cap, .slice so L.length sc, .int .i64 fn]), (1, .agg (frA ⟨lo, he, [t0, t1, t2, t3, t4, t5, t6, t7, t8, t9, t10, t11, t12, t13, t14, t15, t16, t17, t18, t19, t20, t21, t22, t23]⟩)), (2, .agg #[.int .i64 p, .int .u8 (op : Int), .int .i64 a, .int .i64 b])] = some (spA ⟨ao, cap, T, so, sc, L, fn, ⟨lo, he, [t0, t1, t2, t3, t4, t5, t6, t7, t8, t9, t10, t11, t12, t13, t14, t15, t16, t17, t18, t19, t20, t21, t22, t23]⟩, p, op, a, b⟩) := by kernel_rfl
theorem built_spF (ao : Option Addr) (cap : Nat) (T : List Cl) (so : Option Addr) (sc : Nat) (L : List Sg) (fn lo he p : Int) (op : Nat) (a b : Int) (sl : List Nat) (h : sl.length = 24) : Tryz.prog.built 51 [(0, .agg #[.slice ao T.length cap, .slice so L.length sc, .int .i64 fn]), (1, .agg (frA ⟨lo, he, sl⟩)), (2, .agg #[.int .i64 p, .int .u8 (op : Int), .int .i64 a, .int .i64 b])] = some (spA ⟨ao, cap, T, so, sc, L, fn, ⟨lo, he, sl⟩, p, op, a, b⟩) := by
  match sl, h with
  | [t0, t1, t2, t3, t4, t5, t6, t7, t8, t9, t10, t11, t12, t13, t14, t15, t16, t17, t18, t19, t20, t21, t22, t23], _ => exact built_24 ao cap T so sc L fn lo he p op a b t0 t1 t2 t3 t4 t5 t6 t7 t8 t9 t10 t11 t12 t13 t14 t15 t16 t17 t18 t19 t20 t21 t22 t23
theorem built_sp (s : Sp) (hf : FrOk s.f) : Tryz.prog.built 51 [(0, .agg #[.slice s.ao s.T.length s.cap, .slice s.so s.L.length s.sc, .int .i64 s.fn]), (1, .agg (frA s.f)), (2, .agg #[.int .i64 s.p, .int .u8 (s.op : Int), .int .i64 s.a, .int .i64 s.b])] = some (spA s) :=
  built_spF s.ao s.cap s.T s.so s.sc s.L s.fn s.f.lo s.f.he s.p s.op s.a s.b s.f.sl hf.len
/-- The error of what an instruction finds. -/
def begE (s : Sp) : Int := if canD s.T s.L s.fn = false then 1 else chkF s.T.length s.f
/-- The frame behind an instruction. -/
def applyD (s : Sp) : Fr × Int := if begE s ≠ 0 then (frZ, begE s) else applyS s

theorem frS_is (s : Sp) (hf : FrIs s.T.length s.f) (hm : missD s = 0) (hle : ((tkD s).length : Int) ≤ s.f.he) (htv : ∀ t ∈ takenD s.f (tkD s).length, validD s.T.length t = true) : FrIs s.T.length (frS s) := by
  have hp := popK_is hf hle
  unfold frS
  by_cases h5 : s.op = 5
  · rw [if_pos h5]
    have hm2 := hm
    unfold missD at hm2
    rw [if_pos (Or.inr h5)] at hm2
    refine store_is hp ⟨(load_good hm2).2.1, (load_good hm2).2.2⟩ (get_valid htv 0) ?_
    have h1 := get_valid htv 0
    rw [List.getD_eq_getElem?_getD]
    cases hx : (takenD s.f (tkD s).length)[0]? with
    | none => exact (by decide : (0 : Nat) < 256)
    | some t => exact (taken_valid hf hle hx).2
  · rw [if_neg h5]; exact hp
theorem applyS_ok (s : Sp) (hc : Can s.T s.L s.fn) (hf : FrIs s.T.length s.f) : FrOk (applyS s).1 := by
  unfold applyS
  by_cases h1 : missD s = 0
  rotate_left
  · rw [if_pos h1]; exact frZ_ok
  rw [if_neg (by simpa using h1)]
  by_cases h2 : s.f.he < ((tkD s).length : Int)
  · rw [if_pos h2]; exact frZ_ok
  rw [if_neg h2]
  by_cases h3 : (allO s.T (takenD s.f (tkD s).length) (tkD s) && alD s (takenD s.f (tkD s).length)) = false
  · rw [if_pos h3]; exact frZ_ok
  rw [if_neg h3]
  by_cases h4 : s.op = 22 ∧ 0 < (popK s.f (tkD s).length).he
  · rw [if_pos h4]; exact frZ_ok
  rw [if_neg h4]
  have hu := miss_unk h1
  have hle : ((tkD s).length : Int) ≤ s.f.he := by omega
  have htv : ∀ t ∈ takenD s.f (tkD s).length, validD s.T.length t = true := fun t ht => by
    obtain ⟨i, hi, rfl⟩ := List.mem_iff_getElem.1 ht
    exact (taken_valid hf hle (List.getElem?_eq_getElem hi)).1
  refine pushA_ok _ _ (frS_is s hf h1 hle htv).ok (fun t ht => valid_byte hc.made (gv_valid s hc hf htv s.op (unk_op hu) hu t ht))

/-- The environment's box and the frame's. -/
structure Bf (w W : World) (s : Sp) : Prop where
  e : EBx W w.heap.size (.slice s.ao s.T.length s.cap) (.slice s.so s.L.length s.sc) s.fn
  f : FAt W (w.heap.size + 1) s.f
  bel : Below w.heap.size w W
theorem Bf.below {w W W' : World} {s : Sp} (h : Bf w W s) (hb : Below W.heap.size W W') : Bf w W' s :=
  ⟨(hb.block _ h.e.lt).trans h.e, h.f.below hb h.f.lt, h.bel.trans (hb.mono h.bel.size)⟩
theorem Bf.new (w : World) (s : Sp) : Bf w ((w.alloc (.cells #[.slice s.ao s.T.length s.cap, .slice s.so s.L.length s.sc, .int .i64 s.fn] 25)).alloc (.cells (frA s.f) 29)) s := by
  have al1 := (Below.refl w.heap.size w).alloc (Nat.le_refl _) (.cells #[.slice s.ao s.T.length s.cap, .slice s.so s.L.length s.sc, .int .i64 s.fn] 25)
  have al := al1.alloc (by simp) (.cells (frA s.f) 29)
  have n1 := heap_alloc_new w (.cells #[.slice s.ao s.T.length s.cap, .slice s.so s.L.length s.sc, .int .i64 s.fn] 25)
  have n2 := FAt.new (w.alloc (.cells #[.slice s.ao s.T.length s.cap, .slice s.so s.L.length s.sc, .int .i64 s.fn] 25)) s.f
  rw [World.size_alloc] at n2
  exact ⟨(((Below.refl _ _).alloc (Nat.le_refl _) _).block w.heap.size (by simp)).trans n1, n2, al⟩

set_option maxHeartbeats 2000000 in
theorem begins_any (s : Sp) (w : World) (hT : TabAt w s.ao s.T) (hcap : s.T.length ≤ s.cap) (hW : WordsAt w) (hz : s.T.length * 48 ≤ 140737488351232) (hL : SgsAt w s.so s.L) (hzl : s.L.length * 32 ≤ 140737488351232) (hf : FrOk s.f) :
    Calls Tryz.prog 16 #[.agg #[.slice s.ao s.T.length s.cap, .slice s.so s.L.length s.sc, .int .i64 s.fn], .agg (frA s.f)] w fun e w' => e = .returned (.int .i64 (begE s)) ∧ Below w.heap.size w w' := by
  have hB := (Bf.new w s).bel
  have HX := hide (Bf.new w s)
  have HCB := hide (canBe_any s.ao s.cap s.T s.so s.sc s.L s.fn _ (hT.below hB) hcap (hW.below hB) hz (hL.below hB) hzl)
  clear hT hcap hW hz hL hzl hB
  go_enter Tryz.func16, Tryz.ntmps16
  go_upto_region 1 with fail
  generalize ((w.alloc (.cells #[.slice s.ao s.T.length s.cap, .slice s.so s.L.length s.sc, .int .i64 s.fn] 25)).alloc (.cells (frA s.f) 29)) = W1 at HX HCB ⊢
  go_wp2_with (refine wpList_load_rowG (by kernel_rfl) 25 (.tmp 2) rfl w.heap.size rfl 25 #[.slice s.ao s.T.length s.cap, .slice s.so s.L.length s.sc, .int .i64 s.fn] (0, 0) _ (unhide HX).e Tryz.underlying25 rfl (by kernel_rfl) ?_)
  refine (unhide HCB).mono ?_
  rintro e W2 ⟨rfl, hB2⟩
  have HX2 := hide ((unhide HX).below hB2)
  clear hB2 HX HCB
  cases hc : canD s.T s.L s.fn
  · have HE : Hid (begE s = 1) := hide (by unfold begE; rw [if_pos hc])
    clear hc
    go_wp2
    go_ret
    exact ⟨ret_int (unhide HE).symm, (unhide HX2).bel⟩
  have HE : Hid (begE s = chkF s.T.length s.f) := hide (by unfold begE; rw [if_neg (by rw [hc]; decide)])
  have k0 := (unhide HX2).e.c0
  clear hc
  go_wp2_with (refine wpList_load_row rfl 29 (.tmp 3) rfl (w.heap.size + 1) rfl 29 (frA s.f) (0, 0) _ (unhide HX2).f Tryz.underlying29 rfl (sizeFr hf) ?_)
  refine (CheckF_any s.ao s.cap s.T.length s.f W2 hf).mono ?_
  rintro e W3 ⟨rfl, hB3⟩
  have HX3 := hide ((unhide HX2).below hB3)
  clear hB3 k0
  go_wp2
  go_ret
  exact ⟨ret_int (unhide HE).symm, (unhide HX3).bel⟩

set_option maxRecDepth 20000 in
set_option maxHeartbeats 4000000 in
theorem Apply_any (s : Sp) (w : World) (hT : TabAt w s.ao s.T) (hcap : s.T.length ≤ s.cap) (hW : WordsAt w) (hz : s.T.length * 48 ≤ 140737488351232) (hL : SgsAt w s.so s.L) (hzl : s.L.length * 32 ≤ 140737488351232) (hf : FrOk s.f) (hw : WidAt w) (ho : s.op < 256) (ha : -9223372036854775808 ≤ s.a ∧ s.a ≤ 9223372036854775807) (hb : -9223372036854775808 ≤ s.b ∧ s.b ≤ 9223372036854775807) :
    Calls Tryz.prog 7 #[.agg #[.slice s.ao s.T.length s.cap, .slice s.so s.L.length s.sc, .int .i64 s.fn], .agg (frA s.f), .agg #[.int .i64 s.p, .int .u8 (s.op : Int), .int .i64 s.a, .int .i64 s.b]] w fun e w' => e = .returned (frTwo (applyD s)) ∧ Below w.heap.size w w' := by
  have b1 := Bf.new w s
  have al3 := (Below.refl _ ((w.alloc (.cells #[.slice s.ao s.T.length s.cap, .slice s.so s.L.length s.sc, .int .i64 s.fn] 25)).alloc (.cells (frA s.f) 29))).alloc (Nat.le_refl _) (.cells #[.int .i64 s.p, .int .u8 (s.op : Int), .int .i64 s.a, .int .i64 s.b] 31)
  have n3 := heap_alloc_new ((w.alloc (.cells #[.slice s.ao s.T.length s.cap, .slice s.so s.L.length s.sc, .int .i64 s.fn] 25)).alloc (.cells (frA s.f) 29)) (.cells #[.int .i64 s.p, .int .u8 (s.op : Int), .int .i64 s.a, .int .i64 s.b] 31)
  have hsz : ((w.alloc (.cells #[.slice s.ao s.T.length s.cap, .slice s.so s.L.length s.sc, .int .i64 s.fn] 25)).alloc (.cells (frA s.f) 29)).heap.size = w.heap.size + 2 := by simp
  rw [hsz] at n3
  have al4 := (Below.refl _ (((w.alloc (.cells #[.slice s.ao s.T.length s.cap, .slice s.so s.L.length s.sc, .int .i64 s.fn] 25)).alloc (.cells (frA s.f) 29)).alloc (.cells #[.int .i64 s.p, .int .u8 (s.op : Int), .int .i64 s.a, .int .i64 s.b] 31))).alloc (Nat.le_refl _) (.cells (frA frZ) 29)
  have n4 := FAt.new (((w.alloc (.cells #[.slice s.ao s.T.length s.cap, .slice s.so s.L.length s.sc, .int .i64 s.fn] 25)).alloc (.cells (frA s.f) 29)).alloc (.cells #[.int .i64 s.p, .int .u8 (s.op : Int), .int .i64 s.a, .int .i64 s.b] 31)) frZ
  have hsz2 : (((w.alloc (.cells #[.slice s.ao s.T.length s.cap, .slice s.so s.L.length s.sc, .int .i64 s.fn] 25)).alloc (.cells (frA s.f) 29)).alloc (.cells #[.int .i64 s.p, .int .u8 (s.op : Int), .int .i64 s.a, .int .i64 s.b] 31)).heap.size = w.heap.size + 3 := by simp
  rw [hsz2] at n4
  have HX := hide ((b1.below al3).below al4)
  have HI : Hid (IBx ((((w.alloc (.cells #[.slice s.ao s.T.length s.cap, .slice s.so s.L.length s.sc, .int .i64 s.fn] 25)).alloc (.cells (frA s.f) 29)).alloc (.cells #[.int .i64 s.p, .int .u8 (s.op : Int), .int .i64 s.a, .int .i64 s.b] 31)).alloc (.cells (frA frZ) 29)) (w.heap.size + 2) s) := hide ((al4.block (w.heap.size + 2) (by rw [hsz2]; omega)).trans n3)
  have HZ := hide n4
  have HOKF : Hid (∀ W, Below w.heap.size w W → canD s.T s.L s.fn = true → SpOk W s) := hide (fun W hB hc => ⟨hT.below hB, hL.below hB, hz, hzl, canD_all hc, hf, ho, ha, hb, hw.below hB⟩)
  have HBG := hide (fun W (hB : Below w.heap.size w W) => begins_any s W (hT.below hB) hcap (hW.below hB) hz (hL.below hB) hzl hf)
  have HBU := hide (built_sp s hf)
  have hbz := run_buildZ
  have HE : Hid (∀ (X : Fr × Int) (W : World), applyD s = X → Below w.heap.size w W → (Ending.returned (frTwo X) = .returned (frTwo (applyD s)) ∧ Below w.heap.size w W)) := hide (fun X W h hB => ⟨by rw [h], hB⟩)
  clear b1 al3 n3 hsz al4 n4 hsz2 hT hcap hW hz hL hzl hw ho ha hb
  go_enter Tryz.func7, Tryz.ntmps7
  go_upto_region 1 with fail
  rw [frZ_eq]
  generalize ((((w.alloc (.cells #[.slice s.ao s.T.length s.cap, .slice s.so s.L.length s.sc, .int .i64 s.fn] 25)).alloc (.cells (frA s.f) 29)).alloc (.cells #[.int .i64 s.p, .int .u8 (s.op : Int), .int .i64 s.a, .int .i64 s.b] 31)).alloc (.cells (frA frZ) 29)) = W1 at HX HI HZ ⊢
  go_wp2_with (first | (refine wpList_load_rowG (by kernel_rfl) 25 (.tmp 3) rfl w.heap.size rfl 25 #[.slice s.ao s.T.length s.cap, .slice s.so s.L.length s.sc, .int .i64 s.fn] (0, 0) _ (unhide HX).e Tryz.underlying25 rfl (by kernel_rfl) ?_) | (refine wpList_load_row rfl 29 (.tmp 4) rfl (w.heap.size + 1) rfl 29 (frA s.f) (0, 0) _ (unhide HX).f Tryz.underlying29 rfl (sizeFr hf) ?_))
  refine (unhide HBG W1 (unhide HX).bel).mono ?_
  rintro e W2 ⟨rfl, hB2⟩
  have HX2 := hide ((unhide HX).below hB2)
  have HI2 : Hid (IBx W2 (w.heap.size + 2) s) := hide ((hB2.block _ (unhide HI).lt).trans (unhide HI))
  have HZ2 := hide ((unhide HZ).below hB2 (unhide HZ).lt)
  clear hB2 HX HI HZ HBG W1
  by_cases h0 : begE s = 0
  rotate_left
  · have HR : Hid (applyD s = (frZ, begE s)) := hide (by unfold applyD; rw [if_pos h0])
    have q1 : (begE s != 0) = true := bne_t h0
    clear h0
    generalize begE s = er at HR q1 ⊢
    go_wp2_with (refine wpList_store_row rfl 29 (.tmp 6) (.tmp 14) rfl (w.heap.size + 3) (frA frZ) rfl rfl 29 (frA frZ) (unhide HZ2) (sizeFr frZ_ok) rfl (frA_one _) ?_)
    exact bodyPost_ret (v := frTwo (frZ, er)) (results_fr2 rfl _ _ (w.heap.size + 3) frZ er frZ_ok rfl rfl ((unhide HZ2).row _)) rfl (unhide HE _ _ (unhide HR) (below_setRow' (unhide HX2).bel (by omega) _))
  have hcan : canD s.T s.L s.fn = true := by
    unfold begE at h0
    cases hc : canD s.T s.L s.fn
    · rw [if_pos hc] at h0; exact absurd h0 (by decide)
    · rfl
  have hchk : chkF s.T.length s.f = 0 := by
    unfold begE at h0
    rw [if_neg (by rw [hcan]; decide)] at h0
    exact h0
  have HR : Hid (applyD s = ((applyS s).1, (applyS s).2)) := hide (by unfold applyD; rw [if_neg (by omega)])
  have HAP := hide (apply_any s W2 (unhide HOKF W2 (unhide HX2).bel hcan) (frIs_of hf hchk))
  have HOR : Hid (FrOk (applyS s).1) := hide (applyS_ok s (canD_all hcan) (frIs_of hf hchk))
  have HT2 : Hid (frTwo (applyS s) = .tuple #[.agg (frA (applyS s).1), .int .i64 (applyS s).2]) := hide rfl
  rw [unhide HT2] at HAP
  generalize (applyS s).1 = F at HR HAP HOR
  generalize (applyS s).2 = er at HR HAP
  rw [h0]
  clear h0 hcan hchk HT2
  go_upto_region 4 with fail
  refine wp_region_lit ?_
  refine wpList_load_rowG (by kernel_rfl) 25 (.tmp 3) rfl w.heap.size rfl 25 #[.slice s.ao s.T.length s.cap, .slice s.so s.L.length s.sc, .int .i64 s.fn] (0, 0) _ (unhide HX2).e Tryz.underlying25 rfl (by kernel_rfl) ?_
  refine wpList_load_row rfl 29 (.tmp 4) rfl (w.heap.size + 1) rfl 29 (frA s.f) (0, 0) _ (unhide HX2).f Tryz.underlying29 rfl (sizeFr hf) ?_
  refine wpList_load_rowG (by kernel_rfl) 31 (.tmp 5) rfl (w.heap.size + 2) rfl 31 #[.int .i64 s.p, .int .u8 (s.op : Int), .int .i64 s.a, .int .i64 s.b] (0, 0) _ (unhide HI2) Tryz.underlying31 rfl (by kernel_rfl) ?_
  refine wpList_buildC rfl 51 _ rfl (spA s) [(0, .agg #[.slice s.ao s.T.length s.cap, .slice s.so s.L.length s.sc, .int .i64 s.fn]), (1, .agg (frA s.f)), (2, .agg #[.int .i64 s.p, .int .u8 (s.op : Int), .int .i64 s.a, .int .i64 s.b])] (by kernel_rfl) (unhide HBU) ?_
  go_simp
  go_wp2_with fail
  refine (unhide HAP).mono ?_
  rintro e W3 ⟨rfl, hB3⟩
  have HZ3 := hide ((unhide HZ2).below hB3 (unhide HZ2).lt)
  have HB3 := hide ((unhide HX2).bel.trans (hB3.mono (unhide HX2).bel.size))
  clear hB3 HAP
  go_wp2_with (refine wpList_store_row rfl 29 (.tmp 6) (.tmp 21) rfl (w.heap.size + 3) (frA F) rfl rfl 29 (frA frZ) (unhide HZ3) (sizeFr (unhide HOR)) (sizeEq frZ_ok (unhide HOR)) (frA_one _) ?_)
  exact bodyPost_ret (v := frTwo (F, er)) (results_fr2 rfl _ _ (w.heap.size + 3) F er (unhide HOR) rfl rfl ((unhide HZ3).row _)) rfl (unhide HE _ _ (unhide HR) (below_setRow' (unhide HB3) (by omega) _))
end Go.Proofs.YtkodmpcnndbngaaGreatDoor
