/-
  Texts of contracts and plain lemmas, one behind another; each says at its head what it holds.
-/
import Derived.Test.YtkcnkfhdbjiggaaSu17
import Derived.Test.YtkcnkfhdbjiggaaSu13
import Derived.Test.YtkcnkfhdbjiggaaSu10
/-
  What the laws of store share: an image read again, Get and Open by what is kept alone, names held against names.
-/
namespace Go.Proofs.Ytkcnkfhdbjiggaa
open Go.RowKit
set_option maxRecDepth 20000

theorem Tw.zero {w : World} {B g : Nat} (h : IsSt w B g (.slice none 0 0) (.slice none 0 0) [] []) : Tw w B g (.slice none 0 0) (.slice none 0 0) (.slice none 0 0) (.slice none 0 0) [] [] [] where
  st := h
  xo := ⟨rfl, Or.inl ⟨rfl, rfl⟩⟩
  lo := ⟨rfl, Or.inl ⟨rfl, rfl⟩⟩
  rk := fun x hx => (by cases hx)
  sm := rfl
  ok := ⟨List.Pairwise.nil, by simp⟩
  en := fun x hx => (by cases hx)
  big := by simp
  s1 := fun q e => (by cases e)
  s2 := fun q e => (by cases e)
theorem Tw.keepT {w w1 : World} {B g b : Nat} {iv kv xi lv : Value} {I : List UInt8} {K : List Ke} {L : List Rk} {cs : Array Value} (h : Tw w B g iv kv xi lv I K L) (hb : Bx w b 31 cs) (hk : Kept (fun q => q = b) w w1) : Tw w1 B g iv kv xi lv I K L := by
  refine ⟨h.st.keep hk (fun (e : g = b) => ty_ne h.st.row hb (by decide) e) (fun q e (e2 : q = b) => ?_) (fun q e (e2 : q = b) => ?_), h.xo.keepBx hb hk (by decide), h.lo.keep hk (fun q e (e2 : q = b) => ?_), fun x hx => (h.rk x hx).keepBx hb hk (by decide), h.sm, h.ok, h.en, h.big, h.s1, h.s2⟩
  · obtain ⟨cur, hh⟩ := h.st.ity _ e
    exact ty_ne hh hb (by decide) e2
  · obtain ⟨cur, hh⟩ := h.st.kty _ e
    exact ty_ne hh hb (by decide) e2
  · obtain ⟨cur, hh⟩ := own_tyR h.lo e
    exact ty_ne hh hb (by decide) e2
theorem u64rem2 (n : Int) : wrap64 ((IntKind.u64.wrap n).tmod 2) = 0 ∨ wrap64 ((IntKind.u64.wrap n).tmod 2) = 1 := by
  have h0 : 0 ≤ IntKind.u64.wrap n := by simp [IntKind.wrap, IntKind.bits, IntKind.signed]; omega
  rw [Int.tmod_eq_emod_of_nonneg h0]
  rcases Int.emod_two_eq (IntKind.u64.wrap n) with h | h
  · left; rw [h]; first | rfl | simp [wrap64] | (unfold wrap64; decide)
  · right; rw [h]; first | rfl | simp [wrap64] | (unfold wrap64; decide)
theorem OwnB.nilN {w : World} {B : Nat} {ao : Option Addr} {n c : Nat} {l : List UInt8} (h : OwnB w B (.slice ao n c) l) : ao = none → l = [] ∧ c = 0 := fun e => by
  rcases h.2 with ⟨h1, h2⟩ | ⟨g, cap, cur, hv, _⟩
  · injection h1 with _ _ h1
    exact ⟨List.eq_nil_of_length_eq_zero h2, h1⟩
  · injection hv with hv _ _
    rw [e] at hv
    cases hv
theorem ImK.done {w w' : World} {B g : Nat} {iv kv : Value} {code : Int} {I R : List UInt8} {K K2 : List Ke} {e : Ending} (h : ImK I K) (h2 : code = 0 → ImK (I ++ R) K2) (hd : DoPost w B g iv kv I K code R K2 e w') :
    Kept (SA g iv kv) w w' ∧ ∃ xi' lv' v iv' kv' I' K' L', e = .returned (.tuple #[.agg #[xi', lv'], v, .bool true]) ∧ Tw w' B g iv' kv' xi' lv' I' K' L' ∧ ImK I' K' := by
  obtain ⟨hk, xi', lv', v, iv', kv', I', K', L', he, ht, hc⟩ := hd
  refine ⟨hk, xi', lv', v, iv', kv', I', K', L', he, ht, ?_⟩
  rcases hc with ⟨-, rfl, rfl, -⟩ | ⟨hc, rfl, rfl, -⟩
  · exact h
  · exact h2 hc
theorem OpenS_im {I : List UInt8} {K : List Ke} (him : ImK I K) (ao : Option Addr) (c : Nat) (w : World) (hl : BAt w ao I) (hn : ao = none → I = []) (hb : I.length ≤ 1048576) (hlc : I.length ≤ c) :
    Calls Try.prog 15 #[.slice ao I.length c] w fun e w' => ∃ g iv kv, e = .returned (.tuple #[.pointer (some ⟨g, 0, none⟩), .int .i64 0]) ∧ IsSt w' w.heap.size g iv kv I K ∧ Below w.heap.size w w' := by
  refine (OpenS_any ao c I w hl hn (by omega) hlc).mono ?_
  rintro e w' ⟨hb', ⟨-, h0⟩ | ⟨g, iv, kv, k, K', he, h0, hst, -, -, -⟩⟩
  · rw [him.op] at h0; cases h0
  · rw [him.op] at h0
    injection h0 with h0
    injection h0 with h1 h2
    subst h1 h2
    rw [List.take_length] at hst
    exact ⟨g, iv, kv, he, hst, hb'⟩
def getE (V : List (ByteArray × List UInt8)) (s : ByteArray) : Int := if nameB s = false then 6 else if hasN (V.map Prod.fst) s = false then 211 else 0
def getB (V : List (ByteArray × List UInt8)) (s : ByteArray) : List UInt8 := if nameB s = false then [] else if hasN (V.map Prod.fst) s = false then [] else ((V[posN (V.map Prod.fst) s]?).map Prod.snd).getD []
theorem GetS_pk {w : World} {B g : Nat} {iv kv : Value} {I : List UInt8} {K : List Ke} (H : IsSt w B g iv kv I K) (hI : I.length ≤ 1048576) (hok : OkK K) (he : EnK I.length K) (s : ByteArray) (hs : s.size ≤ maxLen) :
    Calls Try.prog 10 #[.pointer (some ⟨g, 0, none⟩), .string s] w fun e w' => ∃ v, e = .returned (.tuple #[v, .int .i64 (getE (pkV I K) s)]) ∧ OwnB w' w.heap.size v (getB (pkV I K) s) ∧ Below w.heap.size w w' := by
  refine (GetS_any H hI hok he s hs).mono ?_
  rintro e w' ⟨hb, ⟨rfl, h1⟩ | ⟨rfl, h1, h2⟩ | ⟨v, x, rfl, h1, h2, h3, h4⟩⟩
  · refine ⟨_, by unfold getE; rw [if_pos h1], ?_, hb⟩
    unfold getB
    rw [if_pos h1]
    exact ⟨rfl, Or.inl ⟨rfl, rfl⟩⟩
  · rw [← pkV_nm I K] at h2
    refine ⟨_, by unfold getE; rw [if_neg (by rw [h1]; simp), if_pos h2], ?_, hb⟩
    unfold getB
    rw [if_neg (by rw [h1]; simp), if_pos h2]
    exact ⟨rfl, Or.inl ⟨rfl, rfl⟩⟩
  · rw [← pkV_nm I K] at h2 h3
    refine ⟨v, by unfold getE; rw [if_neg (by rw [h1]; simp), if_neg (by rw [h2]; simp)], ?_, hb⟩
    unfold getB
    rw [if_neg (by rw [h1]; simp), if_neg (by rw [h2]; simp)]
    have : (pkV I K)[posN ((pkV I K).map Prod.fst) s]? = some (x.nm, seg I x.fr x.to) := by
      conv => lhs; unfold pkV
      rw [List.getElem?_map]
      unfold pkV at h3
      rw [h3]
      rfl
    rw [this]
    exact h4
theorem getB_len {I : List UInt8} {K : List Ke} (he : EnK I.length K) (s : ByteArray) : (getB (pkV I K) s).length ≤ 4096 := by
  unfold getB
  split
  · simp
  · split
    · simp
    · cases h : (pkV I K)[posN ((pkV I K).map Prod.fst) s]? with
      | none => simp
      | some y =>
        unfold pkV at h
        rw [List.getElem?_map] at h
        cases h2 : K[posN ((pkV I K).map Prod.fst) s]? with
        | none => unfold pkV at h2; rw [h2] at h; cases h
        | some z =>
          unfold pkV at h2
          rw [h2] at h
          injection h with h
          have h3 := he z (List.mem_of_getElem? h2)
          have h4 := seg_len (I := I) h3.1 h3.2.1
          show (y.2).length ≤ 4096
          rw [← h]
          show (seg I z.fr z.to).length ≤ 4096
          omega
set_option maxHeartbeats 1000000 in
theorem EqualT_same {B B' : Nat} {ao bo : Option Addr} {c c' n n' : Nat} {N : List ByteArray} {w : World} (hl : OwnT w B (.slice ao n c) N) (hm : OwnT w B' (.slice bo n' c') N) (h1 : N.length ≤ 4096) :
    Calls Try.prog 20 #[.slice ao n c, .slice bo n' c'] w fun e w' => e = .returned (.bool true) ∧ ∃ k, w' = w.drewN k := by
  obtain ⟨a2, d2, hv, -, hc⟩ := hl.at
  obtain ⟨b2, e2, hv', -, hc'⟩ := hm.at
  injection hv with q1 q2 q3
  injection hv' with r1 r2 r3
  subst q1 q2 q3 r1 r2 r3
  have hb : (((N.length : Nat) : Int) != ((N.length : Nat) : Int)) = false := bne_f rfl
  have HC := hide hc
  have HC' := hide hc'
  clear hl hm hc hc'
  go_enter Try.func20, Try.ntmps20
  go_wp2
  go_loopw [13] (fun i wr => ∃ k : Nat, k ≤ N.length ∧ i = .int .i64 k ∧ ∃ q, wr = w.drewN q) (fun i _ => N.length - (intOf i).toNat)
  case atStart => exact ⟨0, by omega, rfl, 0, rfl⟩
  case round =>
    obtain ⟨k, hk, rfl, q, rfl⟩ := hrel
    by_cases hlt : k < N.length
    · obtain ⟨b, rfl, c1⟩ := unhide HC k _ (List.getElem?_eq_getElem hlt)
      obtain ⟨b', rfl, c2⟩ := unhide HC' k _ (List.getElem?_eq_getElem hlt)
      generalize N[k] = x at c1 c2
      have i1 : ((k : Nat) : Int) < ((N.length : Nat) : Int) := by omega
      have hq : (x.toList == x.toList) = true := beq_self_eq_true _
      go_wp2
      go_quiet (fail)
      go_wp2
      go_roundw
      case rel => exact ⟨k + 1, by omega, by go_num, _, rfl⟩
      case measure => simp [intOf]; omega
    · go_wp2
      go_ret
      exact ⟨rfl, _, rfl⟩
end Go.Proofs.Ytkcnkfhdbjiggaa

/-
  The contract of the document's Pack over a state.
-/
namespace Go.Proofs.Ytkcnkfhdbjiggaa
open Go.RowKit
set_option maxRecDepth 20000

theorem results_cell1S {fn : Func} {p : Tmp} {ty : TypeId} (h : fn.results = #[.cell p ty]) (tmps : Array Value) (P : Program) (w : World) :
    (results fn tmps).run P w = ((asAddr (tmps.getD p undef)).run P w).andThen fun a w₁ => (loadVar ty a).run P w₁ := by
  simp only [results, h]
  simp [Sem.run_bind, Result.andThen]
theorem results_st1 {fn : Func} {q : Tmp} (h : fn.results = #[.cell q 28]) (tmps : Array Value) (W : World) (g : Nat) (x0 x1 : Value) (hp : tmps.getD q undef = .pointer (some ⟨g, 0, none⟩)) (hg : Bx W g 28 #[x0, x1]) :
    (results fn tmps).run Try.prog W = .ok (.agg #[x0, x1]) W := by
  rw [results_cell1S h, hp, run_addrS, Result.andThen_ok, run_loadVar_row W g 28 28 #[x0, x1] (0, 0) _ hg Try.underlying28 rfl (by kernel_rfl)]
def pkR (L : List Rk) : List (ByteArray × List UInt8) := L.map fun x => (x.nm, x.bs)
def RkSm (L : List Rk) : Prop := ∀ x ∈ L, nameB x.nm = true ∧ x.bs.length ≤ 4096
theorem pkI_len {L : List Rk} (h : RkSm L) : (pkI (pkR L)).length ≤ L.length * 4124 := by
  induction L with
  | nil => simp [pkI, pkR]
  | cons x r ih =>
    have h1 := ih (fun y hy => h y (List.mem_cons_of_mem _ hy))
    obtain ⟨h2, h3⟩ := h x List.mem_cons_self
    have h4 := (name_24 h2).2
    have h5 := recK_len x.nm x.bs
    have : pkI (pkR (x :: r)) = recK x.nm x.bs ++ pkI (pkR r) := by simp [pkI, pkR]
    rw [this, List.length_append, List.length_cons]
    omega
theorem pkI_snoc {L : List Rk} {k : Nat} {x : Rk} (h : L[k]? = some x) : pkI (pkR (L.take (k + 1))) = pkI (pkR (L.take k)) ++ recK x.nm x.bs := by
  rw [snoc_take h]
  simp [pkI, pkR]
def RPack (w : World) (lv : Value) (L : List Rk) (e : Ending) (w' : World) : Prop := ∃ xi, e = .returned (.agg #[xi, lv]) ∧ OwnB w' w.heap.size xi (pkI (pkR L)) ∧ Below w.heap.size w w'
theorem OwnB.nilQ {w : World} {B : Nat} {ao : Option Addr} {n c : Nat} {l : List UInt8} (h : OwnB w B (.slice ao n c) l) : ao = none → l = [] ∧ c = 0 := fun e => by
  rcases h.2 with ⟨h1, h2⟩ | ⟨g, cap, cur, hv, _⟩
  · injection h1 with _ _ h1
    exact ⟨List.eq_nil_of_length_eq_zero h2, h1⟩
  · injection hv with hv _ _
    rw [e] at hv
    cases hv
theorem OwnB.at8Q {w : World} {B : Nat} {ao : Option Addr} {n c : Nat} {l : List UInt8} (h : OwnB w B (.slice ao n c) l) : BAt w ao l := by
  obtain ⟨a', c', hv, hB, -⟩ := h.atN
  injection hv with h1 h2 h3
  subst h1
  exact hB
theorem srcO {w : World} {B : Nat} {a : Option Addr} {n c : Nat} {l : List UInt8} (h : OwnB w B (.slice a n c) l) : SrcB w (.slice a n c) l := by
  obtain ⟨a', c', hv, hB, -⟩ := h.atN
  injection hv with h1 h2 h3
  subst h1 h2 h3
  rcases h.2 with ⟨e1, e2⟩ | ⟨g, cap, cur, hv, _⟩
  · injection e1 with e1 e3 e4
    subst e1 e4
    exact Or.inl ⟨by rw [e2], List.eq_nil_of_length_eq_zero e2⟩
  · injection hv with hv _ _
    subst hv
    exact Or.inr ⟨_, _, rfl, hB⟩
theorem own_notBx {w : World} {B b : Nat} {v : Value} {l : List UInt8} {t : TypeId} {cs : Array Value} (ho : OwnB w B v l) (hb : Bx w b t cs) (ht : 5 ≠ t) : v.ownBlock ≠ some b := fun e => by
  obtain ⟨cur, hh⟩ := own_tyB ho e
  exact ty_ne hh hb ht rfl
theorem below_grownB {w0 w w' : World} {B : Nat} {v : Value} {l : List UInt8} (h : Below B w0 w) (hB : B ≤ w.heap.size) (ho : OwnB w B v l) (hg : w.grownBy w' v.ownBlock) : Below B w0 w' := by
  refine (Kept.of_grown hg).below h hB (fun k hk => ?_)
  exact (World.ownsRow.lt ho k hk.symm).1
set_option maxRecDepth 20000 in
set_option maxHeartbeats 2000000 in
theorem refPack_any {w : World} {B2 : Nat} {xa la : Option Addr} {xn xc lc : Nat} {L : List Rk} (hl : OwnR w B2 (.slice la L.length lc) L) (hr : RkO w L) (hL : L.length ≤ 16) (hsm : RkSm L) :
    Calls Try.prog 14 #[.agg #[.slice xa xn xc, .slice la L.length lc]] w (RPack w (.slice la L.length lc) L) := by
  have HL := hide hl
  have HR := hide hr
  have HSM := hide hsm
  have mixed := mixedS
  obtain ⟨W0, hW0⟩ : ∃ W0, W0 = (((w.alloc (.cells #[.slice xa xn xc, .slice la L.length lc] 28)).alloc (.cells #[.slice none 0 0, .slice none 0 0] 28)).alloc (.cells #[.slice none 0 0, .slice la L.length lc] 28)) := ⟨_, rfl⟩
  have hbw : Below w.heap.size w W0 := by rw [hW0]; exact (((Below.refl _ _).alloc (Nat.le_refl _) _).alloc (by simp) _).alloc (by simp; omega) _
  have HX1 : Hid (Bx W0 w.heap.size 28 #[.slice xa xn xc, .slice la L.length lc]) := hide (by
    rw [hW0]
    exact Bx.below (Bx.below (heap_alloc_new w _) ((Below.refl _ _).alloc (Nat.le_refl _) _)) ((Below.refl _ _).alloc (Nat.le_refl _) _))
  have HX2 : Hid (Bx W0 (w.heap.size + 1) 28 #[.slice none 0 0, .slice none 0 0]) := hide (by
    rw [hW0]
    have := heap_alloc_new (w.alloc (.cells #[.slice xa xn xc, .slice la L.length lc] 28)) (.cells #[.slice none 0 0, .slice none 0 0] 28)
    rw [World.size_alloc] at this
    exact Bx.below this ((Below.refl _ _).alloc (Nat.le_refl _) _))
  have HX3 : Hid (Bx W0 (w.heap.size + 1 + 1) 28 #[.slice none 0 0, .slice la L.length lc]) := hide (by
    rw [hW0]
    have := heap_alloc_new ((w.alloc (.cells #[.slice xa xn xc, .slice la L.length lc] 28)).alloc (.cells #[.slice none 0 0, .slice none 0 0] 28)) (.cells #[.slice none 0 0, .slice la L.length lc] 28)
    rw [World.size_alloc, World.size_alloc] at this
    exact this)
  have HB0 := hide hbw
  have HW0 := hide hW0
  clear hl hr hsm hbw hW0
  go_enter Try.func14, Try.ntmps14
  go_upto_region 2 with fail
  rw [← unhide HW0]
  clear HW0
  have y1 := (unhide HX1).c 1 rfl
  go_wp2_with fail
  go_loopw [12] (fun i wr => ∃ (k : Nat) (xi : Option Addr) (xn2 xc2 : Nat), k ≤ L.length ∧ i = .int .i64 k ∧ Hid (Bx wr (w.heap.size + 1 + 1) 28 #[.slice xi xn2 xc2, .slice la L.length lc]) ∧ Hid (Bx wr (w.heap.size + 1) 28 #[.slice none 0 0, .slice none 0 0]) ∧ Hid (OwnB wr w.heap.size (.slice xi xn2 xc2) (pkI (pkR (L.take k)))) ∧ Hid (Below w.heap.size w wr)) (fun i _ => L.length - (intOf i).toNat)
  case atStart => exact ⟨0, none, 0, 0, by omega, rfl, HX3, HX2, hide ⟨rfl, Or.inl ⟨rfl, rfl⟩⟩, HB0⟩
  case round =>
    clear HX1 HX2 HX3 HB0 y1
    obtain ⟨k, xi, xn2, xc2, hk, rfl, HX3r, HX2r, HIr, HBr⟩ := hrel
    by_cases hlt : k < L.length
    · have i1 : ((k : Nat) : Int) < ((L.length : Nat) : Int) := by omega
      have hx := List.getElem?_eq_getElem hlt
      obtain ⟨x, hxe⟩ : ∃ x, x = L[k] := ⟨_, rfl⟩
      rw [← hxe] at hx
      obtain ⟨ao2, cap2, hv2, hno, -, -, hc2⟩ := ((unhide HL).below (unhide HBr)).at
      injection hv2 with hv2 hl2 hcp2
      clear hl2
      subst hcp2
      rcases ao2 with _ | ab
      · have := hno rfl
        rw [this] at hlt
        exact absurd hlt (by simp)
      obtain ⟨lb, hlb, hcl⟩ := hc2 ab rfl
      subst hlb
      subst hv2
      have q0 : wr.cell? ⟨lb, k * 2, none⟩ = some (.string x.nm) := hcl _ _ (rkV_get hx 0 (by omega))
      have q1 : wr.cell? ⟨lb, k * 2 + 1, none⟩ = some (.slice x.ba x.bs.length x.bc) := hcl _ _ (rkV_get hx 1 (by omega))
      have hmem := List.mem_of_getElem? hx
      have HXE := hide hx
      obtain ⟨hnm1, hbs1⟩ := unhide HSM x hmem
      have hob := unhide HR x hmem
      have HLN : Hid ((pkI (pkR (L.take k))).length + (recK x.nm x.bs).length ≤ 140737488355328) := hide (by
        have h1 := pkI_len (L := L.take k) (fun y hy => unhide HSM y (List.mem_of_mem_take hy))
        rw [List.length_take] at h1
        have h2 := recK_len x.nm x.bs
        have h3 := (name_24 hnm1).2
        omega)
      clear hc2 hno hcl hx hxe hmem
      obtain ⟨nm, ba, bc, bs⟩ := x
      dsimp only at q0 q1 hnm1 hbs1 hob HLN
      have hnl1 := hob.nilQ
      have HBT := hide (hob.at8Q)
      clear hob
      go_upto_region 5 with fail
      have hal : Below wr.heap.size wr (wr.alloc (.cells #[.string nm, .slice ba bs.length bc] 73)) := (Below.refl _ _).alloc (Nat.le_refl _) _
      have HXk1 : Hid (Bx (wr.alloc (.cells #[.string nm, .slice ba bs.length bc] 73)).drew wr.heap.size 73 #[.string nm, .slice ba bs.length bc]) := hide (heap_alloc_new wr _)
      have HB1 : Hid (Below w.heap.size w (wr.alloc (.cells #[.string nm, .slice ba bs.length bc] 73)).drew) := hide ((unhide HBr).trans (hal.drew.mono (unhide HBr).size))
      have HX31 := hide ((unhide HX3r).below hal.drew)
      have HX21 := hide ((unhide HX2r).below hal.drew)
      have HI1 := hide ((unhide HIr).below hal.drew)
      clear hal q0 q1 HX3r HX2r HIr HBr
      refine wp_region_held_drew (S := fun w' => Bx w' wr.heap.size 73 #[.string nm, .slice ba bs.length bc]) mixed (unhide HXk1) (fun hS => ?_)
      generalize (wr.alloc (.cells #[.string nm, .slice ba bs.length bc] 73)).drew = Wd at hS HXk1 HB1 HX31 HX21 HI1 ⊢
      generalize wr.heap.size = bk at hS HXk1 ⊢
      refine wpAnyH_take (i := 0) (v := .pointer (some ⟨w.heap.size + 1 + 1, 0, none⟩)) rfl (by kernel_rfl) (by kernel_rfl) (by kernel_rfl) (fun _ _ _ h => h) (Or.inl ⟨by rfl, fun W _ => by go_simp⟩) hS ?_
      go_simp
      refine wpAnyH_take (i := 2) (v := .pointer (some ⟨bk, 0, none⟩)) rfl (by kernel_rfl) (by kernel_rfl) (by kernel_rfl) (fun _ _ _ h => h) (Or.inl ⟨by rfl, fun W _ => by go_simp⟩) hS ?_
      go_simp
      refine wpAnyH_take (i := 3) (v := .string nm) rfl (by kernel_rfl) (by kernel_rfl) (by kernel_rfl) (fun _ _ _ h => h) (Or.inl ⟨by rfl, fun W h => by have h0 := h.c 0 rfl; go_simp⟩) hS ?_
      go_simp
      refine wpAnyH_take (i := 4) (v := .pointer (some ⟨bk, 1, none⟩)) rfl (by kernel_rfl) (by kernel_rfl) (by kernel_rfl) (fun _ _ _ h => h) (Or.inl ⟨by rfl, fun W _ => by go_simp⟩) hS ?_
      go_simp
      refine wpAnyH_take (i := 5) (v := .slice ba bs.length bc) rfl (by kernel_rfl) (by kernel_rfl) (by kernel_rfl) (fun _ _ _ h => h) (Or.inl ⟨by rfl, fun W h => by have h1 := h.c 1 rfl; go_simp⟩) hS ?_
      go_simp
      refine wpAnyH_ready (rs := [1, 6]) (by kernel_rfl) (by simp) ?_
      refine AllReadyH.cons rfl (fun KK hK => ?_) (AllReadyH.cons rfl (fun KK hK => ?_) AllReadyH.nil)
      · have e0 := (unhide HX31).c 0 rfl
        go_simp
        refine hK.out _ _ (unhide HXk1) (fun hS1 => ?_)
        clear hK KK e0
        refine wpAnyH_ready (rs := [6]) (by kernel_rfl) (by simp) ?_
        refine AllReadyH.cons rfl (fun KK hK => ?_) AllReadyH.nil
        go_simp
        have HRc := hide (record1_any nm ba bc bs Wd hnm1 ((unhide HBT).below' (unhide HB1)) hnl1 hbs1)
        go_wp2_with (go_at_call 38; (with_reducible refine (unhide HRc).mono ?_); rintro e W2 ⟨v2, rfl, hO2, hb2⟩)
        have HXk2 := hide ((unhide HXk1).below hb2)
        have HX32 := hide ((unhide HX31).below hb2)
        have HX22 := hide ((unhide HX21).below hb2)
        have HO2 := hide hO2
        have HI2 := hide ((unhide HI1).below hb2)
        have HB2 := hide ((unhide HB1).trans (hb2.mono (unhide HB1).size))
        refine hK.out _ _ (unhide HXk2) (fun hS2 => ?_)
        clear hK KK hO2 hb2 HRc
        obtain ⟨a2, n2, c2, rfl⟩ : ∃ a n c, v2 = .slice a n c := by
          obtain ⟨a, c, h, -⟩ := (unhide HO2).atN
          exact ⟨a, _, c, h⟩
        refine wpAnyH_ready (rs := [7]) (by kernel_rfl) (by simp) ?_
        refine AllReadyH.cons rfl (fun KK hK => ?_) AllReadyH.nil
        rw [if_pos (by rfl)]
        refine wp_appendB (.tmp 17) (.tmp 22) rfl w.heap.size (.slice xi xn2 xc2) _ rfl (unhide HI2) (.slice a2 n2 c2) (recK nm bs) rfl (srcO (unhide HO2)) (unhide HLN) (unhide HB2).size ?_
        intro v3 W3 hO3 hg3
        have HXk3 := hide ((unhide HXk2).grown hg3 (own_notBx (unhide HI2) (unhide HXk2) (by decide)))
        have HX33 := hide ((unhide HX32).grown hg3 (own_notBx (unhide HI2) (unhide HX32) (by decide)))
        have HX23 := hide ((unhide HX22).grown hg3 (own_notBx (unhide HI2) (unhide HX22) (by decide)))
        have HB3 := hide (below_grownB (unhide HB2) (unhide HB2).size (unhide HI2) hg3)
        obtain ⟨a3, n3, c3, rfl⟩ : ∃ a n c, v3 = .slice a n c := by
          obtain ⟨a, c, h, -⟩ := hO3.atN
          exact ⟨a, _, c, h⟩
        have HO3 := hide hO3
        refine hK.out _ _ (unhide HXk3) (fun hS3 => ?_)
        clear hK KK hO3 hg3 HI2 HO2 HXk2 HX32 HX22 HB2
        refine wpAnyH_take (i := 8) (v := .pointer (some ⟨w.heap.size + 1 + 1, 0, none⟩)) rfl (by kernel_rfl) (by kernel_rfl) (by kernel_rfl) (fun _ _ _ h => h) (Or.inl ⟨by rfl, fun W _ => by go_simp⟩) hS3 ?_
        go_simp
        refine wpAnyH_ready (rs := [9]) (by kernel_rfl) (by simp) ?_
        refine AllReadyH.cons rfl (fun KK hK => ?_) AllReadyH.nil
        have e0 := (unhide HX33).c 0 rfl
        have f0 := (unhide HX33).f 0
        have HXk4 : Hid (Bx (W3.setCell ⟨w.heap.size + 1 + 1, 0, none⟩ (.slice a3 n3 c3)) bk 73 #[.string nm, .slice ba bs.length bc]) := hide ((unhide HXk3).other ⟨w.heap.size + 1 + 1, 0, none⟩ _ (fun e => ty_ne (unhide HXk3) (unhide HX33) (by decide) e))
        have HX34 : Hid (Bx (W3.setCell ⟨w.heap.size + 1 + 1, 0, none⟩ (.slice a3 n3 c3)) (w.heap.size + 1 + 1) 28 #[.slice a3 n3 c3, .slice (some ⟨lb, 0, none⟩) L.length lc]) := hide ((unhide HX33).set 0 _ rfl)
        have HX24 : Hid (Bx (W3.setCell ⟨w.heap.size + 1 + 1, 0, none⟩ (.slice a3 n3 c3)) (w.heap.size + 1) 28 #[.slice none 0 0, .slice none 0 0]) := hide ((unhide HX23).other ⟨w.heap.size + 1 + 1, 0, none⟩ _ (by show w.heap.size + 1 ≠ w.heap.size + 1 + 1; omega))
        have HB4 : Hid (Below w.heap.size w (W3.setCell ⟨w.heap.size + 1 + 1, 0, none⟩ (.slice a3 n3 c3))) := hide ((unhide HB3).setCell (p := ⟨w.heap.size + 1 + 1, 0, none⟩) (by show w.heap.size ≤ w.heap.size + 1 + 1; omega) _)
        have HO4 : Hid (OwnB (W3.setCell ⟨w.heap.size + 1 + 1, 0, none⟩ (.slice a3 n3 c3)) w.heap.size (.slice a3 n3 c3) (pkI (pkR (L.take (k + 1))))) := hide (by
          rw [pkI_snoc (unhide HXE)]
          exact (unhide HO3).keepBx (unhide HX33) (kept_setCell W3 ⟨w.heap.size + 1 + 1, 0, none⟩ _) (by decide))
        go_simp
        refine hK.out _ _ (unhide HXk4) (fun hS4 => ?_)
        clear hK KK hS3
        refine wpAnyH_done (by kernel_rfl) ?_ _
        go_wp2
        go_roundw
        case rel => exact ⟨k + 1, a3, n3, c3, by omega, by go_num, HX34, HX24, HO4, HB4⟩
        case measure => simp [intOf]; omega
      · go_simp
        have HRc := hide (record1_any nm ba bc bs Wd hnm1 ((unhide HBT).below' (unhide HB1)) hnl1 hbs1)
        go_wp2_with (go_at_call 38; (with_reducible refine (unhide HRc).mono ?_); rintro e W2 ⟨v2, rfl, hO2, hb2⟩)
        have HXk2 := hide ((unhide HXk1).below hb2)
        have HX32 := hide ((unhide HX31).below hb2)
        have HX22 := hide ((unhide HX21).below hb2)
        have HO2 := hide hO2
        have HI2 := hide ((unhide HI1).below hb2)
        have HB2 := hide ((unhide HB1).trans (hb2.mono (unhide HB1).size))
        refine hK.out _ _ (unhide HXk2) (fun hS2 => ?_)
        clear hK KK hO2 hb2 HRc
        refine wpAnyH_ready (rs := [1]) (by kernel_rfl) (by simp) ?_
        refine AllReadyH.cons rfl (fun KK hK => ?_) AllReadyH.nil
        have e0 := (unhide HX32).c 0 rfl
        go_simp
        refine hK.out _ _ (unhide HXk2) (fun hS2b => ?_)
        clear hK KK e0
        obtain ⟨a2, n2, c2, rfl⟩ : ∃ a n c, v2 = .slice a n c := by
          obtain ⟨a, c, h, -⟩ := (unhide HO2).atN
          exact ⟨a, _, c, h⟩
        refine wpAnyH_ready (rs := [7]) (by kernel_rfl) (by simp) ?_
        refine AllReadyH.cons rfl (fun KK hK => ?_) AllReadyH.nil
        rw [if_pos (by rfl)]
        refine wp_appendB (.tmp 17) (.tmp 22) rfl w.heap.size (.slice xi xn2 xc2) _ rfl (unhide HI2) (.slice a2 n2 c2) (recK nm bs) rfl (srcO (unhide HO2)) (unhide HLN) (unhide HB2).size ?_
        intro v3 W3 hO3 hg3
        have HXk3 := hide ((unhide HXk2).grown hg3 (own_notBx (unhide HI2) (unhide HXk2) (by decide)))
        have HX33 := hide ((unhide HX32).grown hg3 (own_notBx (unhide HI2) (unhide HX32) (by decide)))
        have HX23 := hide ((unhide HX22).grown hg3 (own_notBx (unhide HI2) (unhide HX22) (by decide)))
        have HB3 := hide (below_grownB (unhide HB2) (unhide HB2).size (unhide HI2) hg3)
        obtain ⟨a3, n3, c3, rfl⟩ : ∃ a n c, v3 = .slice a n c := by
          obtain ⟨a, c, h, -⟩ := hO3.atN
          exact ⟨a, _, c, h⟩
        have HO3 := hide hO3
        refine hK.out _ _ (unhide HXk3) (fun hS3 => ?_)
        clear hK KK hO3 hg3 HI2 HO2 HXk2 HX32 HX22 HB2
        refine wpAnyH_take (i := 8) (v := .pointer (some ⟨w.heap.size + 1 + 1, 0, none⟩)) rfl (by kernel_rfl) (by kernel_rfl) (by kernel_rfl) (fun _ _ _ h => h) (Or.inl ⟨by rfl, fun W _ => by go_simp⟩) hS3 ?_
        go_simp
        refine wpAnyH_ready (rs := [9]) (by kernel_rfl) (by simp) ?_
        refine AllReadyH.cons rfl (fun KK hK => ?_) AllReadyH.nil
        have e0 := (unhide HX33).c 0 rfl
        have f0 := (unhide HX33).f 0
        have HXk4 : Hid (Bx (W3.setCell ⟨w.heap.size + 1 + 1, 0, none⟩ (.slice a3 n3 c3)) bk 73 #[.string nm, .slice ba bs.length bc]) := hide ((unhide HXk3).other ⟨w.heap.size + 1 + 1, 0, none⟩ _ (fun e => ty_ne (unhide HXk3) (unhide HX33) (by decide) e))
        have HX34 : Hid (Bx (W3.setCell ⟨w.heap.size + 1 + 1, 0, none⟩ (.slice a3 n3 c3)) (w.heap.size + 1 + 1) 28 #[.slice a3 n3 c3, .slice (some ⟨lb, 0, none⟩) L.length lc]) := hide ((unhide HX33).set 0 _ rfl)
        have HX24 : Hid (Bx (W3.setCell ⟨w.heap.size + 1 + 1, 0, none⟩ (.slice a3 n3 c3)) (w.heap.size + 1) 28 #[.slice none 0 0, .slice none 0 0]) := hide ((unhide HX23).other ⟨w.heap.size + 1 + 1, 0, none⟩ _ (by show w.heap.size + 1 ≠ w.heap.size + 1 + 1; omega))
        have HB4 : Hid (Below w.heap.size w (W3.setCell ⟨w.heap.size + 1 + 1, 0, none⟩ (.slice a3 n3 c3))) := hide ((unhide HB3).setCell (p := ⟨w.heap.size + 1 + 1, 0, none⟩) (by show w.heap.size ≤ w.heap.size + 1 + 1; omega) _)
        have HO4 : Hid (OwnB (W3.setCell ⟨w.heap.size + 1 + 1, 0, none⟩ (.slice a3 n3 c3)) w.heap.size (.slice a3 n3 c3) (pkI (pkR (L.take (k + 1))))) := hide (by
          rw [pkI_snoc (unhide HXE)]
          exact (unhide HO3).keepBx (unhide HX33) (kept_setCell W3 ⟨w.heap.size + 1 + 1, 0, none⟩ _) (by decide))
        go_simp
        refine hK.out _ _ (unhide HXk4) (fun hS4 => ?_)
        clear hK KK hS3
        refine wpAnyH_done (by kernel_rfl) ?_ _
        go_wp2
        go_roundw
        case rel => exact ⟨k + 1, a3, n3, c3, by omega, by go_num, HX34, HX24, HO4, HB4⟩
        case measure => simp [intOf]; omega
    · have i1 : ¬ ((k : Nat) : Int) < ((L.length : Nat) : Int) := by omega
      have hkk : k = L.length := by omega
      have hps := unhide HIr
      rw [hkk, List.take_length] at hps
      have HPS := hide hps
      clear hps hkk HIr hk hlt
      have y0 := (unhide HX3r).c 0 rfl
      have y1 := (unhide HX3r).c 1 rfl
      have X2 : Hid (Bx (wr.setRow (w.heap.size + 1) #[.slice xi xn2 xc2, .slice la L.length lc]) (w.heap.size + 1) 28 #[.slice xi xn2 xc2, .slice la L.length lc]) := hide (setRow_heap _ _ _ _ _ _ (unhide HX2r))
      have XB : Hid (Below w.heap.size w (wr.setRow (w.heap.size + 1) #[.slice xi xn2 xc2, .slice la L.length lc])) := hide (below_rowS (unhide HBr) (by omega) _)
      have XO : Hid (OwnB (wr.setRow (w.heap.size + 1) #[.slice xi xn2 xc2, .slice la L.length lc]) w.heap.size (.slice xi xn2 xc2) (pkI (pkR L))) := hide ((unhide HPS).keepBx (unhide HX2r) (kept_row wr (w.heap.size + 1) _) (by decide))
      go_wp2_with (refine wpList_store_row rfl 28 _ _ rfl (w.heap.size + 1) #[.slice xi xn2 xc2, .slice la L.length lc] rfl rfl 28 #[.slice none 0 0, .slice none 0 0] (unhide HX2r) (by kernel_rfl) rfl (by simp [Value.oneCell']) ?_)
      exact bodyPost_ret (v := .agg #[.slice xi xn2 xc2, .slice la L.length lc]) (results_st1 rfl _ _ (w.heap.size + 1) _ _ rfl (unhide X2)) rfl ⟨_, rfl, unhide XO, unhide XB⟩
end Go.Proofs.Ytkcnkfhdbjiggaa

/-
  The contract of the document's Get.
-/
namespace Go.Proofs.Ytkcnkfhdbjiggaa
open Go.RowKit
set_option maxRecDepth 20000

def RGet (w : World) (L : List Rk) (s : ByteArray) (e : Ending) (w' : World) : Prop := Below w.heap.size w w' ∧
  ((e = .returned (.tuple #[.slice none 0 0, .int .i64 6]) ∧ nameB s = false) ∨ (e = .returned (.tuple #[.slice none 0 0, .int .i64 211]) ∧ nameB s = true ∧ hasN (rNm L) s = false) ∨ ∃ x, e = .returned (.tuple #[.slice x.ba x.bs.length x.bc, .int .i64 0]) ∧ nameB s = true ∧ hasN (rNm L) s = true ∧ L[posN (rNm L) s]? = some x)
set_option maxRecDepth 20000 in
set_option maxHeartbeats 1000000 in
theorem refGet_any {w : World} {B2 : Nat} {xa la : Option Addr} {xn xc lc : Nat} {L : List Rk} (s : ByteArray) (hl : OwnR w B2 (.slice la L.length lc) L) (hL : L.length ≤ 16) (hs : s.size ≤ maxLen) :
    Calls Try.prog 11 #[.agg #[.slice xa xn xc, .slice la L.length lc], .string s] w (RGet w L s) := by
  obtain ⟨W2, hW2⟩ : ∃ W2, W2 = w.alloc (.cells #[.slice xa xn xc, .slice la L.length lc] 28) := ⟨_, rfl⟩
  have hbw : Below w.heap.size w W2 := by rw [hW2]; exact (Below.refl _ _).alloc (Nat.le_refl _) _
  have HX3 : Hid (Bx W2 w.heap.size 28 #[.slice xa xn xc, .slice la L.length lc]) := hide (by
    rw [hW2]
    exact heap_alloc_new w _)
  have HW2 := hide hW2
  have HB2 := hide hbw
  have HLI := hide (hl.below hbw)
  have HNm := hide (refName_any s W2 hs)
  have HPl := hide (place_any s (unhide HLI) (by omega))
  clear hW2 hbw hl
  have y1 := (unhide HX3).c 1 rfl
  go_enter Try.func11, Try.ntmps11
  go_upto_region 1 with fail
  rw [← unhide HW2]
  clear HW2
  go_wp2_with fail
  refine (unhide HNm).mono ?_
  rintro e W ⟨rfl, hw⟩
  rw [hw]
  clear hw W HNm
  cases h1 : nameB s
  · have HN1 := hide h1
    clear h1
    go_wp2
    go_ret2
    exact ⟨unhide HB2, Or.inl ⟨rfl, unhide HN1⟩⟩
  · have HN1 := hide h1
    clear h1
    go_wp2_with fail
    refine (unhide HPl).mono ?_
    rintro e W3 ⟨rfl, hb3⟩
    have HB3 := hide ((unhide HB2).trans (hb3.mono (unhide HB2).size))
    have HX4 := hide ((unhide HX3).below hb3)
    have HL3 := hide ((unhide HLI).below hb3)
    clear hb3 HPl y1
    cases h2 : hasN (rNm L) s
    · have HN2 := hide h2
      clear h2
      go_wp2
      go_ret2
      exact ⟨unhide HB3, Or.inr (Or.inl ⟨rfl, unhide HN1, unhide HN2⟩)⟩
    · have HN2 := hide h2
      have hp : posN (rNm L) s < L.length := by have := has_lt h2; rwa [rNm_len] at this
      clear h2
      generalize hpe : posN (rNm L) s = p at hp ⊢
      have HPE := hide hpe
      clear hpe
      have hx := List.getElem?_eq_getElem hp
      generalize L[p] = x at hx
      have HX := hide hx
      obtain ⟨ao, cap, hv, hn, hc1, hc2, hcell⟩ := (unhide HL3).at
      injection hv with hv1 _ hv2
      subst hv1 hv2
      cases la with
      | none =>
        have := hn rfl
        subst this
        simp at hp
      | some b =>
        obtain ⟨gb, hgb, hcc⟩ := hcell b rfl
        subst hgb
        have c1 : W3.cell? ⟨gb, p * 2 + 1, none⟩ = some (.slice x.ba x.bs.length x.bc) := hcc (p * 2 + 1) _ ((rkV_get hx 1 (by omega)).trans rfl)
        have y1 := (unhide HX4).c 1 rfl
        have i1 : ((p : Nat) : Int) < ((L.length : Nat) : Int) := by omega
        clear hcell hcc hn hx
        go_wp2
        go_ret2
        exact ⟨unhide HB3, Or.inr (Or.inr ⟨x, rfl, unhide HN1, unhide HN2, by rw [unhide HPE]; exact unhide HX⟩)⟩
end Go.Proofs.Ytkcnkfhdbjiggaa

/-
  What the law StorePlays wants besides: both sides packed, and opened again.
-/
namespace Go.Proofs.Ytkcnkfhdbjiggaa
open Go.RowKit
set_option maxRecDepth 20000

theorem own_moreK {w : World} {B B' : Nat} {v : Value} {K : List Ke} (h : OwnK w B v K) (hb : B' ≤ B) : OwnK w B' v K := by
  rcases h with ⟨h1, h2 | ⟨g, cap, cur, hv, hg, hr⟩⟩
  · exact ⟨h1, Or.inl h2⟩
  · exact ⟨h1, Or.inr ⟨g, cap, cur, hv, by omega, hr⟩⟩
theorem IsSt.mono {w : World} {B B' g : Nat} {iv kv : Value} {I : List UInt8} {K : List Ke} (h : IsSt w B g iv kv I K) (hb : B' ≤ B) : IsSt w B' g iv kv I K := ⟨h.row, Nat.le_trans hb h.low, h.img.mono hb, own_moreK h.kep hb⟩
theorem SameL.pk {I : List UInt8} {K : List Ke} {L : List Rk} (h : SameL I K L) : pkR L = pkV I K := h
theorem Tw.sms {w : World} {B g : Nat} {iv kv xi lv : Value} {I : List UInt8} {K : List Ke} {L : List Rk} (h : Tw w B g iv kv xi lv I K L) : RkSm L := fun x hx => by
  obtain ⟨i, hi⟩ := List.getElem?_of_mem hx
  obtain ⟨e, he, h1, h2⟩ := same_at h.sm hi
  have h3 := h.en e (List.mem_of_getElem? he)
  have h4 := seg_len (I := I) h3.1 h3.2.1
  exact ⟨by rw [h1]; exact h3.2.2.2, by rw [h2]; omega⟩
theorem PkS.big2 {I : List UInt8} {K : List Ke} {I' : List UInt8} {K' : List Ke} (h : PkS I K I' K') : I'.length ≤ 1048576 := by
  have h1 := h.im.op
  unfold openS at h1
  split at h1
  · cases h1
  · omega
theorem Tw.pack {w w1 w2 : World} {B g gp : Nat} {iv kv xi lv ip kp xi' : Value} {I I' : List UInt8} {K K' : List Ke} {L : List Rk} (h : Tw w B g iv kv xi lv I K L)
    (hs : IsSt w1 w.heap.size gp ip kp I' K') (hp : PkS I K I' K') (hb1 : Below w.heap.size w w1) (hb2 : Below w1.heap.size w1 w2) (ho : OwnB w2 w1.heap.size xi' (pkI (pkR L))) : Tw w2 B gp ip kp xi' lv I' K' L := by
  have hB : B ≤ w.heap.size := by have := h.st.gl; have := h.st.low; omega
  have hb12 : Below w.heap.size w w2 := hb1.trans (hb2.mono hb1.size)
  have he : pkI (pkR L) = I' := by rw [hp.eq, h.sm.pk]
  rw [he] at ho
  refine ⟨(hs.mono hB).below hb2, ho.mono (Nat.zero_le _), h.lo.below hb12, fun x hx => (h.rk x hx).below hb12, hp.same h.sm, hp.ok, hp.en, hp.big2, ?_, ?_⟩
  · intro q e e2
    have h1 := (World.ownsRow.lt hs.img q e).2
    have h2 := (World.ownsRow.lt ho q e2).1
    omega
  · intro q e x hx e2
    have h1 := (World.ownsRow.lt hs.img q e).1
    have h2 := (World.ownsRow.lt (h.rk x hx) q e2).2
    omega
theorem Tw.opened {w w1 : World} {B g gt N : Nat} {iv kv xi lv it kt : Value} {I : List UInt8} {K : List Ke} {L : List Rk} (h : Tw w B g iv kv xi lv I K L)
    (hs : IsSt w1 N gt it kt I K) (hN : w.heap.size ≤ N) (hb1 : Below w.heap.size w w1) : Tw w1 B gt it kt xi lv I K L := by
  have hB : B ≤ w.heap.size := by have := h.st.gl; have := h.st.low; omega
  refine ⟨hs.mono (by omega), h.xo.below hb1, h.lo.below hb1, fun x hx => (h.rk x hx).below hb1, h.sm, h.ok, h.en, h.big, ?_, ?_⟩
  · intro q e e2
    have h1 := (World.ownsRow.lt hs.img q e).1
    have h2 := (World.ownsRow.lt h.xo q e2).2
    omega
  · intro q e x hx e2
    have h1 := (World.ownsRow.lt hs.img q e).1
    have h2 := (World.ownsRow.lt (h.rk x hx) q e2).2
    omega
theorem u64rem6 (n : Int) : ∃ r : Int, wrap64 ((IntKind.u64.wrap n).tmod 6) = r ∧ (r = 0 ∨ r = 1 ∨ r = 2 ∨ r = 3 ∨ r = 4 ∨ r = 5) := by
  have h0 : 0 ≤ IntKind.u64.wrap n := by simp [IntKind.wrap, IntKind.bits, IntKind.signed]; omega
  refine ⟨_, rfl, ?_⟩
  rw [Int.tmod_eq_emod_of_nonneg h0]
  have h1 : 0 ≤ IntKind.u64.wrap n % 6 := Int.emod_nonneg _ (by decide)
  have h2 : IntKind.u64.wrap n % 6 < 6 := Int.emod_lt_of_pos _ (by decide)
  have h3 : IntKind.u64.wrap n % 6 = 0 ∨ IntKind.u64.wrap n % 6 = 1 ∨ IntKind.u64.wrap n % 6 = 2 ∨ IntKind.u64.wrap n % 6 = 3 ∨ IntKind.u64.wrap n % 6 = 4 ∨ IntKind.u64.wrap n % 6 = 5 := by omega
  rcases h3 with h | h | h | h | h | h <;> rw [h] <;> simp [wrap64]
theorem refGet_pk {w : World} {B2 : Nat} {xa la : Option Addr} {xn xc lc : Nat} {L : List Rk} {V : List (ByteArray × List UInt8)} (s : ByteArray) (hl : OwnR w B2 (.slice la L.length lc) L) (hr : RkO w L) (hL : L.length ≤ 16) (hs : s.size ≤ maxLen) (hV : pkR L = V) :
    Calls Try.prog 11 #[.agg #[.slice xa xn xc, .slice la L.length lc], .string s] w fun e w' => ∃ ao c, e = .returned (.tuple #[.slice ao (getB V s).length c, .int .i64 (getE V s)]) ∧ BAt w' ao (getB V s) ∧ Below w.heap.size w w' := by
  subst hV
  have hnm : (pkR L).map Prod.fst = rNm L := by unfold pkR rNm; rw [List.map_map]; rfl
  refine (refGet_any s hl hL hs).mono ?_
  rintro e w' ⟨hb, ⟨rfl, h1⟩ | ⟨rfl, h1, h2⟩ | ⟨x, rfl, h1, h2, h3⟩⟩
  · have e1 : getE (pkR L) s = 6 := by unfold getE; rw [if_pos h1]
    have e2 : getB (pkR L) s = [] := by unfold getB; rw [if_pos h1]
    exact ⟨none, 0, by rw [e1, e2]; rfl, by rw [e2]; exact (fun i hi => absurd hi (by simp)), hb⟩
  · rw [← hnm] at h2
    have e1 : getE (pkR L) s = 211 := by unfold getE; rw [if_neg (by rw [h1]; simp), if_pos h2]
    have e2 : getB (pkR L) s = [] := by unfold getB; rw [if_neg (by rw [h1]; simp), if_pos h2]
    exact ⟨none, 0, by rw [e1, e2]; rfl, by rw [e2]; exact (fun i hi => absurd hi (by simp)), hb⟩
  · rw [← hnm] at h2 h3
    have e1 : getE (pkR L) s = 0 := by unfold getE; rw [if_neg (by rw [h1]; simp), if_neg (by rw [h2]; simp)]
    have e2 : getB (pkR L) s = x.bs := by
      unfold getB
      rw [if_neg (by rw [h1]; simp), if_neg (by rw [h2]; simp)]
      have : (pkR L)[posN ((pkR L).map Prod.fst) s]? = some (x.nm, x.bs) := by
        conv => lhs; unfold pkR
        rw [List.getElem?_map]
        unfold pkR at h3
        rw [h3]
        rfl
      rw [this]
      rfl
    exact ⟨x.ba, x.bc, by rw [e1, e2], by rw [e2]; exact ((hr x (List.mem_of_getElem? h3)).below hb).at8Q, hb⟩
end Go.Proofs.Ytkcnkfhdbjiggaa
