/-
  The document's list of what is kept: how it lies, contracts of its place, with and without.
-/
import Derived.Test.YtkcnkfhdbjiggaaSr12
import Derived.Laws.AppendOwnNone
namespace Go.Proofs.Ytkcnkfhdbjiggaa
open Go.RowKit
set_option maxRecDepth 20000

/-- A name and the bytes under it, and where these lie. -/
structure Rk where
  nm : ByteArray
  ba : Option Addr
  bc : Nat
  bs : List UInt8
def rkC (x : Rk) : List Value := [.string x.nm, .slice x.ba x.bs.length x.bc]
def rkV (L : List Rk) : List Value := L.flatMap rkC
theorem rkV_len (L : List Rk) : (rkV L).length = L.length * 2 := by
  unfold rkV
  induction L with
  | nil => simp
  | cons x l ih => rw [List.flatMap_cons, List.length_append, ih, List.length_cons]; simp [rkC]; omega
theorem rkV_app (A B : List Rk) : rkV (A ++ B) = rkV A ++ rkV B := by unfold rkV; simp
theorem rkV_get : ∀ {L : List Rk} {i : Nat} {x : Rk}, L[i]? = some x → ∀ j, j < 2 → (rkV L)[i * 2 + j]? = (rkC x)[j]?
  | [], i, x, h, _, _ => by simp at h
  | g :: l, 0, x, h, j, hj => by
    simp at h
    subst h
    unfold rkV
    rw [List.flatMap_cons, List.getElem?_append_left (by simp [rkC]; omega)]
    simp
  | g :: l, i + 1, x, h, j, hj => by
    have h' : l[i]? = some x := by simpa using h
    have h1 := rkV_get h' j hj
    unfold rkV at h1 ⊢
    rw [List.flatMap_cons, List.getElem?_append_right (by simp [rkC]; omega), ← h1]
    congr 1
    simp [rkC]; omega
theorem rkV_take : ∀ (L : List Rk) (i : Nat), rkV (L.take i) = (rkV L).take (i * 2)
  | [], i => by simp [rkV]
  | x :: l, 0 => by simp [rkV]
  | x :: l, i + 1 => by
    have ih := rkV_take l i
    unfold rkV at ih ⊢
    rw [List.take_succ_cons, List.flatMap_cons, List.flatMap_cons, ih, show (i + 1) * 2 = i * 2 + 1 + 1 by omega]
    simp only [rkC, List.cons_append, List.nil_append, List.take_succ_cons]
theorem rkV_drop : ∀ (L : List Rk) (i : Nat), rkV (L.drop i) = (rkV L).drop (i * 2)
  | [], i => by simp [rkV]
  | x :: l, 0 => by simp [rkV]
  | x :: l, i + 1 => by
    have ih := rkV_drop l i
    unfold rkV at ih ⊢
    rw [List.drop_succ_cons, List.flatMap_cons, ih, show (i + 1) * 2 = i * 2 + 1 + 1 by omega]
    simp only [rkC, List.cons_append, List.nil_append, List.drop_succ_cons]
theorem rkV_one (L : List Rk) : ∀ v ∈ rkV L, v.oneCell' = true := by
  intro v hv
  unfold rkV at hv
  obtain ⟨x, _, hx⟩ := List.mem_flatMap.1 hv
  simp [rkC] at hx
  rcases hx with rfl | rfl <;> simp [Value.oneCell']
def rNm (L : List Rk) : List ByteArray := L.map Rk.nm
theorem rNm_get {L : List Rk} {i : Nat} {x : Rk} (h : L[i]? = some x) : (rNm L)[i]? = some x.nm := by unfold rNm; rw [List.getElem?_map, h]; rfl
theorem rNm_len (L : List Rk) : (rNm L).length = L.length := List.length_map ..
def OwnR (w : World) (base : Nat) (v : Value) (L : List Rk) : Prop := w.ownsRow base 73 2 v L.length (rkV L)
theorem OwnR.keep {S : Nat → Prop} {w w' : World} {base : Nat} {v : Value} {L : List Rk} (h : OwnR w base v L) (hk : Kept S w w') (hs : ∀ k, v.ownBlock = some k → ¬ S k) : OwnR w' base v L := by
  refine ⟨h.1, ?_⟩
  rcases h.2 with h1 | ⟨g, cap, cur, hv, hbg, hh, r⟩
  · exact Or.inl h1
  · exact Or.inr ⟨g, cap, cur, hv, hbg, by rw [hk.block g (Array.getElem?_eq_some_iff.1 hh).1 (hs g (by rw [hv]; rfl))]; exact hh, r⟩
theorem OwnR.below {w w' : World} {base : Nat} {v : Value} {L : List Rk} (h : OwnR w base v L) (hb : Below w.heap.size w w') : OwnR w' base v L := h.keep (Kept.of_below hb (fun _ => False)) (fun _ _ h => h)
theorem OwnR.at {w : World} {base : Nat} {v : Value} {L : List Rk} (h : OwnR w base v L) : ∃ ao cap, v = .slice ao L.length cap ∧ (ao = none → L = []) ∧ L.length ≤ cap ∧ cap ≤ maxLen ∧ (∀ b, ao = some b → ∃ g, b = ⟨g, 0, none⟩ ∧ ∀ j u, (rkV L)[j]? = some u → w.cell? ⟨g, j, none⟩ = some u) := by
  rcases h.2 with ⟨h1, h2⟩ | ⟨g, cap, cur, rfl, hb, hh, hn, hm, hsz, ht⟩
  · have := List.eq_nil_of_length_eq_zero h2
    subst this
    exact ⟨none, 0, h1, fun _ => rfl, Nat.le_refl _, by decide, fun b e => by cases e⟩
  · refine ⟨_, cap, rfl, (fun e => by cases e), hn, hm, fun b e => ⟨g, by injection e with e; exact e.symm, fun j u hu => ?_⟩⟩
    have hj := (List.getElem?_eq_some_iff.1 hu).1
    rw [rkV_len] at hj
    rw [World.ownsRow.cellAt h j (by omega)]
    exact hu
theorem infoRk : (Try.prog.info? 73).map (fun i => (i.zero, i.size, i.bytes)) = some (some (.agg #[.string ⟨#[]⟩, .slice none 0 0]), 2, 40) := by kernel_rfl
theorem unRk : Try.prog.underlying 26 = some (.slice 73) := Try.underlying26
def SrcR (w : World) (b : Value) (M : List Rk) : Prop := (b = .slice none 0 0 ∧ M = []) ∨ ∃ x c, b = .slice (some x) M.length c ∧ ∀ j u, (rkV M)[j]? = some u → w.cell? (x.add j) = some u
theorem wpList_appendR {w : World} {ops : Array Oper} {rest : List Oper} {o : Oper} {a : Act} {Q : Exit → Act → World → Prop} (hgd : o.guard = none) (s x : Operand)
    (ho : o.op = .call { callee := .builtin .append, args := #[s, x], argTypes := #[26, 26] })
    (base : Nat) (v : Value) (L : List Rk) (hs : a.eval s = v) (hown : OwnR w base v L) (b : Value) (M : List Rk) (hx : a.eval x = b) (hb : SrcR w b M) (hfit : L.length + M.length ≤ 4096) (hbase : base ≤ w.heap.size)
    (h : ∀ v' w', OwnR w' base v' (L ++ M) → w.grownBy w' v.ownBlock → wpList Try.prog ops Q rest (a.put o.dst v') w') :
    wpList Try.prog ops Q (o :: rest) a w := by
  obtain ⟨i0, hi, hz0, hz1, hz2⟩ := info_parts infoRk
  rcases hb with ⟨rfl, rfl⟩ | ⟨y, c, rfl, hb⟩
  · refine wpList_append_own_none hgd s x 26 ho base 73 i0 2 unRk hi v L.length (rkV L) hs hown hx ?_
    exact h v w (by rw [List.append_nil]; exact hown) (World.grownBy.refl _ _)
  · refine wpList_append_own w hgd s x 26 ho base 73 i0 _ 2 40 unRk hi hz0 hz1 hz2 rfl (by decide) v L.length (rkV L) hs hown y M.length c (rkV M) hx (rkV_len M) hb (rkV_one M) (by unfold maxLen; omega) (by omega) hbase ?_
    intro v' w' h1 h2 _
    refine h v' w' ?_ h2
    unfold OwnR
    rw [List.length_append, rkV_app]
    exact h1
theorem bl_data (a b : ByteArray) : Op.bytesLess a.toList b.toList = ltS a b := by unfold ltS; rw [Lib.toList_data, Lib.toList_data]
theorem posN_step {N : List ByteArray} {s : ByteArray} {k : Nat} {x : ByteArray} (hx : N[k]? = some x) (h : k ≤ posN N s) (hl : ltS x s = true) : k + 1 ≤ posN N s := by
  rcases Nat.lt_or_eq_of_le h with h | h
  · omega
  · subst h
    rw [pos_at hx] at hl
    cases hl
set_option maxHeartbeats 2000000 in
theorem place_any {w : World} {B : Nat} {a : Option Addr} {cap : Nat} {L : List Rk} (s : ByteArray) (H : OwnR w B (.slice a L.length cap) L) (hlen : L.length ≤ 4096) :
    Calls Try.prog 37 #[.slice a L.length cap, .string s] w fun e w' => e = .returned (.tuple #[.int .i64 ((posN (rNm L) s : Nat) : Int), .bool (hasN (rNm L) s)]) ∧ Below w.heap.size w w' := by
  obtain ⟨a', cap', e, hnil, hc1, hc2, hat⟩ := H.at
  injection e with e1 _ e2
  subst e1 e2
  have HAT := hide hat
  have HNIL := hide hnil
  have mixed := mixedS
  clear H hat hnil
  go_enter Try.func37, Try.ntmps37
  go_wp2_with fail
  go_loopw [6] (fun i wr => ∃ k : Nat, k ≤ L.length ∧ i = .int .i64 (k : Int) ∧ Hid (k ≤ posN (rNm L) s) ∧ wr = w) (fun i _ => L.length - (intOf i).toNat)
  case atStart => exact ⟨0, by omega, rfl, hide (Nat.zero_le _), rfl⟩
  case round =>
    obtain ⟨k, hk, rfl, HP, rfl⟩ := hrel
    by_cases hlt : k < L.length
    · have j1 : ((k : Nat) : Int) < ((L.length : Nat) : Int) := by omega
      have hx := List.getElem?_eq_getElem hlt
      generalize L[k] = x at hx
      obtain ⟨ad, rfl⟩ : ∃ ad, a = some ad := by
        cases a with
        | none => rw [unhide HNIL rfl] at hlt; simp at hlt
        | some ad => exact ⟨ad, rfl⟩
      obtain ⟨g, rfl, hcell⟩ := unhide HAT ad rfl
      have q0 : wr.cell? ⟨g, k * 2, none⟩ = some (.string x.nm) := hcell _ _ (rkV_get hx 0 (by omega))
      have HX := hide hx
      clear hcell hx
      cases hl : ltS x.nm s
      · have HE : Hid (posN (rNm L) s = k) := hide (by
          have h1 := unhide HP
          rcases Nat.lt_or_eq_of_le h1 with h1 | h1
          · have := pos_lt (rNm_get (unhide HX)) h1
            rw [hl] at this
            cases this
          · exact h1.symm)
        have b1 : Op.bytesLess x.nm.toList s.toList = false := by rw [bl_data]; exact hl
        have HR : Hid (hasN (rNm L) s = (x.nm.toList == s.toList)) := hide (by
          unfold hasN
          rw [unhide HE, rNm_get (unhide HX)]
          by_cases he : x.nm = s
          · simp [he]
          · have : ¬ x.nm.toList = s.toList := fun h => he (by rw [Lib.toList_data, Lib.toList_data] at h; exact ba_ext h)
            simp [he, this])
        clear hl
        obtain ⟨q, hq⟩ : ∃ q, (x.nm.toList == s.toList) = q := ⟨_, rfl⟩
        rw [hq] at HR
        go_wp2_with fail
        go_quiet (fail)
        go_wp2
        go_ret2
        exact ⟨by rw [unhide HE, unhide HR, ← hq]; rfl, ⟨rfl, rfl, rfl, Nat.le_refl _, fun _ _ => rfl⟩⟩
      · have b1 : Op.bytesLess x.nm.toList s.toList = true := by rw [bl_data]; exact hl
        have HP2 := hide (posN_step (rNm_get (unhide HX)) (unhide HP) hl)
        clear hl
        go_wp2
        go_roundw
        case rel => exact ⟨k + 1, by omega, by go_num, HP2, trivial⟩
        case measure => simp [intOf]; omega
    · have j1 : ¬ ((k : Nat) : Int) < ((L.length : Nat) : Int) := by omega
      have HE : Hid (posN (rNm L) s = k) := hide (by have := unhide HP; have := pos_le (rNm L) s; rw [rNm_len] at this; omega)
      have HR : Hid (hasN (rNm L) s = false) := hide (by
        unfold hasN
        rw [unhide HE, List.getElem?_eq_none (by rw [rNm_len]; omega)]
        rfl)
      go_wp2_with fail
      go_quiet (fail)
      go_wp2
      go_ret2
      exact ⟨by rw [unhide HE, unhide HR]; rfl, ⟨rfl, rfl, rfl, Nat.le_refl _, fun _ _ => rfl⟩⟩
end Go.Proofs.Ytkcnkfhdbjiggaa
