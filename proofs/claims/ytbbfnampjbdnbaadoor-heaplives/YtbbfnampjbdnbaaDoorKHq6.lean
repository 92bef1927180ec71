/-
  Contracts of the heap's leadsOf and of the closure of come that marks an object. All that lay ahead of the call of come lies unturned.
  What is come to among a heap's objects: the marks, gone through in any order, end as just what is come to. No Go in it.
-/
import Derived.Test.YtbbfnampjbdnbaaDoorKHq5
namespace Go.Proofs.YtbbfnampjbdnbaaDoor
open Go.RowKit
set_option maxRecDepth 20000

/-- What may lead on from an object of a class. -/
def ldOf (h : Hm) (c : Int) : Ld := if c = -1 then ⟨none, 0, []⟩ else (h.L[c.toNat]?).getD ⟨none, 0, []⟩
theorem ldOf_len {h : Hm} (hok : HmOk h) {o : Ob} (ho : o ∈ h.O) : (ldOf h o.cls).bs.length ≤ o.ps.length := by
  unfold ldOf
  rcases hok.cls o ho with e | ⟨c, e, x, hx, hl⟩
  · rw [if_pos e]; simp
  · rw [if_neg (by omega), e]
    simp [hx, hl]
set_option maxHeartbeats 1000000 in
theorem leadsOf_any (B g : Nat) (h : Hm) (r c : Int) (a : Option Addr) (n cp : Nat) (w : World) (H : HpAt B w g h) (hc : c = -1 ∨ ∃ k : Nat, c = (k : Int) ∧ ∃ x, h.L[k]? = some x) :
    Calls Tryd.prog 68 #[.pointer (some ⟨g, 0, none⟩), .agg #[.int .i64 r, .int .i64 c, .slice a n cp]] w fun e w' => e = .returned (.slice (ldOf h c).a (ldOf h c).bs.length (ldOf h c).c) ∧ Below w.heap.size w w' := by
  have HBX : Hid (Bx (w.alloc (.cells #[.int .i64 r, .int .i64 c, .slice a n cp] 83)) w.heap.size 83 #[.int .i64 r, .int .i64 c, .slice a n cp]) := hide (heap_alloc_new w _)
  have hal : Below w.heap.size w (w.alloc (.cells #[.int .i64 r, .int .i64 c, .slice a n cp] 83)) := (Below.refl _ _).alloc (Nat.le_refl _) _
  have HB := hide hal
  have HH := hide (H.below hal)
  clear hal H
  go_enter Tryd.func68, Tryd.ntmps68
  go_upto_region 1 with fail
  generalize (w.alloc (.cells #[.int .i64 r, .int .i64 c, .slice a n cp] 83)) = W1 at HBX HB HH ⊢
  have b1 := (unhide HBX).c 1 rfl
  rcases hc with hc | ⟨k, rfl, x, hx⟩
  · have t1 : (c == -1) = true := by simp [hc]
    have HE : Hid (ldOf h c = ⟨none, 0, []⟩) := hide (by unfold ldOf; rw [if_pos hc])
    clear hc
    go_wp2
    go_ret
    rw [unhide HE]
    exact ⟨rfl, unhide HB⟩
  · have t1 : (((k : Nat) : Int) == -1) = false := beq_f (by omega)
    have HE : Hid (ldOf h ((k : Nat) : Int) = x) := hide (by unfold ldOf; rw [if_neg (by omega)]; simp [hx])
    have hk := (List.getElem?_eq_some_iff.1 hx).1
    have c0 := (unhide HH).c0
    have own := (unhide HH).lds
    rcases own.2 with ⟨e1, e2⟩ | ⟨b, cap, cur, e, _⟩
    · omega
    · rw [e] at own c0
      have c1 := World.ownsRow.cellAt own k (by omega)
      rw [List.getElem?_map, hx] at c1
      change W1.cell? ⟨b, k, none⟩ = some (.slice x.a x.bs.length x.c) at c1
      have i1 : ((k : Nat) : Int) < ((h.L.length : Nat) : Int) := by omega
      clear own e hx
      go_wp2_with fail
      go_quiet (fail)
      go_wp2
      go_ret
      rw [unhide HE]
      exact ⟨rfl, (unhide HB).trans (belowD (Below.refl _ _) _)⟩
/-- Memory while it is gone through: three boxes, the marks, what is ahead. -/
structure CS (w0 : World) (g q1 q2 q3 cb : Nat) (W : World) (C : List Bool) (av : Value) (A : List Nat) : Prop where
  bel : Below w0.heap.size w0 W
  b1 : Bx W q1 27 #[.pointer (some ⟨g, 0, none⟩)]
  b2 : Bx W q2 56 #[.slice (some ⟨cb, 0, none⟩) C.length C.length]
  b3 : Bx W q3 42 #[av]
  row : Bx W cb 4 (C.map (fun b => Value.bool b)).toArray
  ah : OwnJ W w0.heap.size av (A.map (fun n : Nat => (n : Int)))
  g3 : w0.heap.size ≤ q3
  gc : w0.heap.size ≤ cb
theorem CS.below {w0 : World} {g q1 q2 q3 cb : Nat} {W W' : World} {C : List Bool} {av : Value} {A : List Nat} (h : CS w0 g q1 q2 q3 cb W C av A) (hb : Below W.heap.size W W') : CS w0 g q1 q2 q3 cb W' C av A :=
  ⟨h.bel.trans (hb.mono h.bel.size), h.b1.below hb, h.b2.below hb, h.b3.below hb, h.row.below hb, h.ah.below hb, h.g3, h.gc⟩
theorem CS.mark {w0 : World} {g q1 q2 q3 cb : Nat} {W : World} {C : List Bool} {av : Value} {A : List Nat} (h : CS w0 g q1 q2 q3 cb W C av A) (k : Nat) : CS w0 g q1 q2 q3 cb (W.setCell ⟨cb, k, none⟩ (.bool true)) (C.set k true) av A ∧ Kp w0.heap.size [4, 3, 42] W (W.setCell ⟨cb, k, none⟩ (.bool true)) := by
  have hk : Kp w0.heap.size [4] W (W.setCell ⟨cb, k, none⟩ (.bool true)) := Kp.set h.row h.gc (by simp) k _
  refine ⟨⟨h.bel.trans hk.bel, h.b1.kp hk (by decide), ?_, h.b3.kp hk (by decide), h.row.set k _ ?_, own_kp h.ah hk (by decide), h.g3, h.gc⟩, hk.mono (Nat.le_refl _) (by simp)⟩
  · have := h.b2.kp hk (by decide)
    simpa using this
  · show _ = _
    apply Array.ext'
    rw [Array.toList_setIfInBounds]
    simp [List.map_set]
theorem CS.push {w0 : World} {g q1 q2 q3 cb : Nat} {W w3 : World} {C : List Bool} {av v : Value} {A : List Nat} {k : Nat} {obj : Obj} (h : CS w0 g q1 q2 q3 cb W C av A) (hown : w3.ownsRow w0.heap.size 3 1 v (A.length + 1) (jvals (A.map (fun n : Nat => (n : Int))) ++ [.int .i64 (k : Int)])) (hg : (W.alloc obj).grownBy w3 av.ownBlock) :
    CS w0 g q1 q2 q3 cb (w3.setCell ⟨q3, 0, none⟩ v) C v (A ++ [k]) ∧ Bx w3 q3 42 #[av] ∧ Kp w0.heap.size [4, 3, 42] W (w3.setCell ⟨q3, 0, none⟩ v) := by
  have al : Below W.heap.size W (W.alloc obj) := (Below.refl _ _).alloc (Nat.le_refl _) obj
  have h1 := h.below al
  have k1 : Kp w0.heap.size [3] (W.alloc obj) w3 := Kp.of_grown hg (Nat.le_trans h.bel.size al.size) (own_block h1.ah)
  have b3 := h1.b3.kp k1 (by decide)
  have k2 : Kp w0.heap.size [42] w3 (w3.setCell ⟨q3, 0, none⟩ v) := Kp.set b3 h.g3 (by simp) 0 v
  refine ⟨⟨(h1.bel.trans k1.bel).trans k2.bel, (h1.b1.kp k1 (by decide)).kp k2 (by decide), (h1.b2.kp k1 (by decide)).kp k2 (by decide), b3.set 0 v rfl, (h1.row.kp k1 (by decide)).kp k2 (by decide), ?_, h.g3, h.gc⟩, b3, ((Kp.of_below al h.bel.size).trans (k1.mono (Nat.le_refl _) (by simp))).trans (k2.mono (Nat.le_refl _) (by simp))⟩
  have := own_kp hown k2 (by decide)
  unfold OwnJ
  rw [List.map_append, List.length_append]
  unfold jvals at this ⊢
  rw [List.map_append, List.length_map]
  exact this
/-- What is marked. -/
def ToIs (O : List Ob) (ref : Int) (C : List Bool) (A : List Nat) (b : Bool) (C' : List Bool) (A' : List Nat) : Prop :=
  (b = false ∧ (∀ o ∈ O, o.ref ≠ ref) ∧ C' = C ∧ A' = A) ∨
  (b = true ∧ ∃ k o, O[k]? = some o ∧ o.ref = ref ∧ ((C[k]? = some true ∧ C' = C ∧ A' = A) ∨ (C[k]? = some false ∧ C' = C.set k true ∧ A' = A ++ [k])))
set_option maxHeartbeats 2000000 in
theorem come1_any (w0 : World) (B g q1 q2 q3 cb : Nat) (h : Hm) (ref : Int) (w : World) (C : List Bool) (av : Value) (A : List Nat) (H : HpAt B w0 g h) (hok : HmOk h) (hS : CS w0 g q1 q2 q3 cb w C av A) (hC : C.length = h.O.length) (hA : A.length ≤ 4096) :
    Calls Tryd.prog 67 #[.int .i64 ref, .pointer (some ⟨q1, 0, none⟩), .pointer (some ⟨q2, 0, none⟩), .pointer (some ⟨q3, 0, none⟩)] w fun e w' => ∃ b C' av' A', e = .returned (.bool b) ∧ ToIs h.O ref C A b C' A' ∧ CS w0 g q1 q2 q3 cb w' C' av' A' ∧ Kp w0.heap.size [4, 3, 42] w w' := by
  obtain ⟨i0, hi, hz0, hz1, hz2⟩ := info_parts infoJ
  have HF := hide (find_any B g h ref w (H.below hS.bel) hok.asc hok.len)
  have HSS := hide hS
  have c1 := hS.b1.c 0 rfl
  have hlen := hok.len
  have hCl1 : C.length ≤ h.O.length := by omega
  have hCl2 : h.O.length ≤ C.length := by omega
  clear H hok hS hC
  go_enter Tryd.func67, Tryd.ntmps67
  go_wp2_with fail
  refine (unhide HF).mono ?_
  rintro e W2 ⟨k, b, rfl, hf, hb⟩
  have HS2 := hide ((unhide HSS).below hb)
  have HKK : Hid (Kp w0.heap.size [4, 3, 42] w W2) := hide (Kp.of_below hb (unhide HSS).bel.size)
  have hf2 := hf.2
  clear hb hf HF HSS c1
  rcases hf2 with ⟨rfl, o, ho, hr⟩ | ⟨rfl, hno⟩
  · have hk := (List.getElem?_eq_some_iff.1 ho).1
    have hck := List.getElem?_eq_getElem (show k < C.length by omega)
    generalize C[k] = bb at hck
    have c2 := (unhide HS2).b2.c 0 rfl
    have ck : W2.cell? ⟨cb, k, none⟩ = some (.bool bb) := (unhide HS2).row.c k (by simp [hck])
    have i1 : ((k : Nat) : Int) < ((C.length : Nat) : Int) := by omega
    cases bb with
    | true =>
      have HT : Hid (ToIs h.O ref C A true C A) := hide (Or.inr ⟨rfl, k, o, ho, hr, Or.inl ⟨hck, rfl, rfl⟩⟩)
      clear ho hr hck
      go_wp2
      go_ret
      exact ⟨true, C, av, A, rfl, unhide HT, unhide HS2, unhide HKK⟩
    | false =>
      have HT : Hid (ToIs h.O ref C A true (C.set k true) (A ++ [k])) := hide (Or.inr ⟨rfl, k, o, ho, hr, Or.inr ⟨hck, rfl, rfl⟩⟩)
      have f2 := (unhide HS2).row.f k
      have HS3 := hide ((unhide HS2).mark k).1
      have HK3 := hide ((unhide HKK).trans ((unhide HS2).mark k).2)
      obtain ⟨va, vc, hav, _⟩ := (unhide HS2).ah.at
      have HAV := hide hav
      clear ho hr hck hav
      go_upto_region 4 with fail
      clear c2 ck f2 HS2
      generalize W2.setCell ⟨cb, k, none⟩ (.bool true) = W3 at HS3 HK3 ⊢
      have c3 := (unhide HS3).b3.c 0 rfl
      rw [unhide HAV, List.length_map] at c3
      have HR1 : Hid ((W3.alloc (.cells #[.int .i64 ((k : Nat) : Int)] 3)).ownsRow w0.heap.size 3 1 (.slice va A.length vc) A.length (jvals (A.map (fun n : Nat => (n : Int))))) := hide (by have := World.ownsRow.alloc (unhide HS3).ah (.cells #[.int .i64 ((k : Nat) : Int)] 3); rw [unhide HAV, List.length_map] at this; exact this)
      have hws : w0.heap.size ≤ W3.heap.size := (unhide HS3).bel.size
      go_wp2_with (at_builtin; refine wpList_append_lies _ rfl _ _ 42 rfl (w0.heap.size) 3 i0 (.int .i64 0) 1 8 Tryd.underlying42 hi hz0 hz1 hz2 rfl (by decide) _ A.length (jvals (A.map (fun n : Nat => (n : Int)))) rfl (unhide HR1) ⟨W3.heap.size, 0, none⟩ 1 1 [.int .i64 ((k : Nat) : Int)] rfl rfl (cell_one_newJ _ _ _) (by simp [Value.oneCell']) (by omega) ?a3 ?a4 ?a5 (W3.heap.size + 1) ?a6 ?_)
      case a3 => unfold maxLen; omega
      case a4 => omega
      case a5 => simp; omega
      case a6 => simp
      intro g3 cap3 w1 hO1 hG1 _ _
      have HS4 := hide ((unhide HS3).push (obj := .cells #[.int .i64 ((k : Nat) : Int)] 3) hO1 (by rw [unhide HAV, List.length_map]; exact hG1))
      have q3c := (unhide HS4).2.1.c 0 (v := av) rfl
      have q3f := (unhide HS4).2.1.f 0
      clear hO1 hG1 c3
      go_wp2
      go_ret
      exact ⟨true, _, _, _, rfl, unhide HT, (unhide HS4).1, (unhide HK3).trans (unhide HS4).2.2⟩
  · have HT : Hid (ToIs h.O ref C A false C A) := hide (Or.inl ⟨rfl, hno, rfl, rfl⟩)
    clear hno
    go_wp2
    go_ret
    exact ⟨false, C, av, A, rfl, unhide HT, unhide HS2, unhide HKK⟩
inductive Rch (h : Hm) (R : List Int) : Nat → Prop where
  | root {k : Nat} {o : Ob} : h.O[k]? = some o → o.ref ∈ R → Rch h R k
  | step {k t j : Nat} {o o' : Ob} {v : Int} : Rch h R k → h.O[k]? = some o → (ldOf h o.cls).bs[j]? = some true → o.ps[j]? = some v → h.O[t]? = some o' → o'.ref = v → Rch h R t
structure Inv (h : Hm) (R R0 : List Int) (C : List Bool) (A : List Nat) (E : Nat → Nat → Prop) : Prop where
  len : C.length = h.O.length
  ain : ∀ k ∈ A, C[k]? = some true
  snd : ∀ k : Nat, C[k]? = some true → Rch h R k
  rts : ∀ r ∈ R0, r ≠ 0 → ∃ (k : Nat) (o : Ob), h.O[k]? = some o ∧ o.ref = r ∧ C[k]? = some true
  cls : ∀ k : Nat, C[k]? = some true → ∀ (o : Ob) (j : Nat) (v : Int) (t : Nat) (o' : Ob), h.O[k]? = some o → (ldOf h o.cls).bs[j]? = some true → o.ps[j]? = some v → h.O[t]? = some o' → o'.ref = v → C[t]? = some true ∨ k ∈ A ∨ E k j
  bnd : A.length + C.count false ≤ h.O.length
theorem set_true {C : List Bool} {k t : Nat} (h : C[t]? = some true) : (C.set k true)[t]? = some true := by
  rw [List.getElem?_set]
  split
  · rename_i e
    subst e
    have := (List.getElem?_eq_some_iff.1 h).1
    simp [this]
  · exact h
theorem set_count : ∀ {C : List Bool} {k : Nat}, C[k]? = some false → (C.set k true).count false + 1 = C.count false
  | [], k, h => by simp at h
  | b :: C, 0, h => by simp at h; subst h; simp
  | b :: C, k + 1, h => by
    have ih := @set_count C k (by simpa using h)
    rw [List.set_cons_succ, List.count_cons, List.count_cons]
    omega
theorem Inv.to {h : Hm} {R R0 : List Int} {C C' : List Bool} {A A' : List Nat} {E : Nat → Nat → Prop} {ref : Int} {b : Bool} (I : Inv h R R0 C A E) (ht : ToIs h.O ref C A b C' A') (hr : ∀ (k : Nat) (o : Ob), h.O[k]? = some o → o.ref = ref → Rch h R k) :
    Inv h R R0 C' A' E ∧ (∀ k : Nat, C[k]? = some true → C'[k]? = some true) ∧ (b = true → ∃ (k : Nat) (o : Ob), h.O[k]? = some o ∧ o.ref = ref ∧ C'[k]? = some true) ∧ (b = false → ∀ o ∈ h.O, o.ref ≠ ref) ∧ A'.length + 2 * C'.count false ≤ A.length + 2 * C.count false := by
  rcases ht with ⟨rfl, hno, rfl, rfl⟩ | ⟨rfl, k, o, ho, hor, ⟨hc, rfl, rfl⟩ | ⟨hc, rfl, rfl⟩⟩
  · exact ⟨I, fun _ h => h, fun h => (by cases h), fun _ => hno, Nat.le_refl _⟩
  · exact ⟨I, fun _ h => h, fun _ => ⟨k, o, ho, hor, hc⟩, fun h => (by cases h), Nat.le_refl _⟩
  · have hkl := (List.getElem?_eq_some_iff.1 hc).1
    have hkk : (C.set k true)[k]? = some true := by simp [hkl]
    have hcnt := set_count hc
    refine ⟨⟨by simp [I.len], ?_, ?_, ?_, ?_, ?_⟩, fun t ht => set_true ht, fun _ => ⟨k, o, ho, hor, hkk⟩, fun h => (by cases h), ?_⟩
    · intro x hx
      rcases List.mem_append.1 hx with hx | hx
      · exact set_true (I.ain x hx)
      · simp at hx; subst hx; exact hkk
    · intro x hx
      by_cases e : x = k
      · subst e; exact hr x o ho hor
      · rw [List.getElem?_set_ne (fun e2 => e e2.symm)] at hx
        exact I.snd x hx
    · intro r hr0 hr1
      obtain ⟨x, y, h1, h2, h3⟩ := I.rts r hr0 hr1
      exact ⟨x, y, h1, h2, set_true h3⟩
    · intro x hx y j v t o' h1 h2 h3 h4 h5
      by_cases e : x = k
      · exact Or.inr (Or.inl (by simp [e]))
      · rw [List.getElem?_set_ne (fun e2 => e e2.symm)] at hx
        rcases I.cls x hx y j v t o' h1 h2 h3 h4 h5 with h6 | h6 | h6
        · exact Or.inl (set_true h6)
        · exact Or.inr (Or.inl (List.mem_append.2 (Or.inl h6)))
        · exact Or.inr (Or.inr h6)
    · have := I.bnd; simp; omega
    · simp; omega
theorem Inv.start (h : Hm) (R : List Int) : Inv h R [] (List.replicate h.O.length false) [] (fun _ _ => False) := by
  have no : ∀ k : Nat, (List.replicate h.O.length false)[k]? ≠ some true := fun k e => by
    rw [List.getElem?_replicate] at e
    split at e
    · simp at e
    · simp at e
  exact ⟨by simp, fun k hk => (by cases hk), fun k hk => absurd hk (no k), fun r hr => (by cases hr), fun k hk => absurd hk (no k), by simp⟩
theorem Inv.root {h : Hm} {R R0 : List Int} {C : List Bool} {A : List Nat} {E : Nat → Nat → Prop} (I : Inv h R R0 C A E) {r : Int} (hr : r ≠ 0 → ∃ (k : Nat) (o : Ob), h.O[k]? = some o ∧ o.ref = r ∧ C[k]? = some true) : Inv h R (R0 ++ [r]) C A E :=
  ⟨I.len, I.ain, I.snd, fun x hx hx0 => by
    rcases List.mem_append.1 hx with hx | hx
    · exact I.rts x hx hx0
    · simp at hx; subst hx; exact hr hx0, I.cls, I.bnd⟩
theorem Inv.pop {h : Hm} {R R0 : List Int} {C : List Bool} {A : List Nat} {p : Nat} (I : Inv h R R0 C (A ++ [p]) (fun _ _ => False)) : Inv h R R0 C A (fun k j => k = p ∧ 0 ≤ j) := by
  refine ⟨I.len, fun k hk => I.ain k (List.mem_append.2 (Or.inl hk)), I.snd, I.rts, ?_, by have := I.bnd; simp at this; omega⟩
  intro x hx y j v t o' h1 h2 h3 h4 h5
  rcases I.cls x hx y j v t o' h1 h2 h3 h4 h5 with h6 | h6 | h6
  · exact Or.inl h6
  · rcases List.mem_append.1 h6 with h6 | h6
    · exact Or.inr (Or.inl h6)
    · simp at h6; exact Or.inr (Or.inr ⟨h6, Nat.zero_le _⟩)
  · exact h6.elim
theorem Inv.next {h : Hm} {R R0 : List Int} {C : List Bool} {A : List Nat} {p i : Nat} {o : Ob} (I : Inv h R R0 C A (fun k j => k = p ∧ i ≤ j)) (hp : h.O[p]? = some o) (hd : (ldOf h o.cls).bs[i]? = some true → ∀ v, o.ps[i]? = some v → ∀ (t : Nat) (o' : Ob), h.O[t]? = some o' → o'.ref = v → C[t]? = some true) : Inv h R R0 C A (fun k j => k = p ∧ i + 1 ≤ j) := by
  refine ⟨I.len, I.ain, I.snd, I.rts, ?_, I.bnd⟩
  intro x hx y j v t o' h1 h2 h3 h4 h5
  rcases I.cls x hx y j v t o' h1 h2 h3 h4 h5 with h6 | h6 | ⟨h6, h7⟩
  · exact Or.inl h6
  · exact Or.inr (Or.inl h6)
  · subst h6
    by_cases e : i = j
    · subst e
      rw [hp] at h1
      injection h1 with h1
      subst h1
      exact Or.inl (hd h2 v h3 t o' h4 h5)
    · exact Or.inr (Or.inr ⟨rfl, by omega⟩)
theorem Inv.done {h : Hm} {R R0 : List Int} {C : List Bool} {A : List Nat} {p i : Nat} {o : Ob} (I : Inv h R R0 C A (fun k j => k = p ∧ i ≤ j)) (hp : h.O[p]? = some o) (hi : (ldOf h o.cls).bs.length ≤ i) : Inv h R R0 C A (fun _ _ => False) := by
  refine ⟨I.len, I.ain, I.snd, I.rts, ?_, I.bnd⟩
  intro x hx y j v t o' h1 h2 h3 h4 h5
  rcases I.cls x hx y j v t o' h1 h2 h3 h4 h5 with h6 | h6 | ⟨h6, h7⟩
  · exact Or.inl h6
  · exact Or.inr (Or.inl h6)
  · subst h6
    rw [hp] at h1
    injection h1 with h1
    subst h1
    have := (List.getElem?_eq_some_iff.1 h2).1
    omega
/-- What is marked in the end. -/
def ComIs (h : Hm) (R : List Int) (C : List Bool) : Prop := C.length = h.O.length ∧ ∀ k : Nat, C[k]? = some true ↔ Rch h R k
theorem Rch.at {h : Hm} {R : List Int} {k : Nat} (r : Rch h R k) : ∃ o, h.O[k]? = some o := by
  cases r with
  | root h1 _ => exact ⟨_, h1⟩
  | step _ _ _ _ h1 _ => exact ⟨_, h1⟩
theorem Inv.fin {h : Hm} {R : List Int} {C : List Bool} (hok : HmOk h) (I : Inv h R R C [] (fun _ _ => False)) : ComIs h R C := by
  refine ⟨I.len, fun k => ⟨I.snd k, fun hk => ?_⟩⟩
  have uniq : ∀ {a b : Nat} {x y : Ob}, h.O[a]? = some x → h.O[b]? = some y → x.ref = y.ref → a = b := by
    intro a b x y ha hb e
    obtain ⟨h1, h2⟩ := List.getElem?_eq_some_iff.1 ha
    obtain ⟨h3, h4⟩ := List.getElem?_eq_some_iff.1 hb
    rcases Nat.lt_trichotomy a b with h5 | h5 | h5
    · have := List.pairwise_iff_getElem.1 hok.asc a b h1 h3 h5
      rw [h2, h4] at this
      omega
    · exact h5
    · have := List.pairwise_iff_getElem.1 hok.asc b a h3 h1 h5
      rw [h2, h4] at this
      omega
  induction hk with
  | root h1 h2 =>
    rename_i k o
    have h0 := (hok.refs o (List.mem_of_getElem? h1)).1
    obtain ⟨x, y, h3, h4, h5⟩ := I.rts o.ref h2 (by omega)
    rw [uniq h1 h3 h4.symm]
    exact h5
  | step _ h1 h2 h3 h4 h5 ih =>
    rcases I.cls _ ih _ _ _ _ _ h1 h2 h3 h4 h5 with h6 | h6 | h6
    · exact h6
    · cases h6
    · exact h6.elim
end Go.Proofs.YtbbfnampjbdnbaaDoor
