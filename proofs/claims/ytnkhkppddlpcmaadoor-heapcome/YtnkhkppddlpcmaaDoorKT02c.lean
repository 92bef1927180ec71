/-
  The contract of provisoref02's Fields: what the plain function 'fieldsD' says, in new memory. Conditions: the table fits, and there are at most a million fields.
-/
import Derived.Test.YtnkhkppddlpcmaaDoorJTY
namespace Go.Proofs.YtnkhkppddlpcmaaDoor
open Go.RowKit
set_option maxRecDepth 20000

theorem rowMono {w : World} {base base' : Nat} {t : TypeId} {s : Nat} {v : Value} {n : Nat} {cs : List Value} (h : w.ownsRow base t s v n cs) (hb : base' ≤ base) : w.ownsRow base' t s v n cs := by
  refine ⟨h.1, ?_⟩
  rcases h.2 with h1 | ⟨g, cap, cur, hv, hbg, r⟩
  · exact Or.inl h1
  · exact Or.inr ⟨g, cap, cur, hv, by omega, r⟩

theorem lineR_length (T : List Cl) : ∀ (k : Nat) (c : Int), (lineR T k c).length ≤ k
  | 0, c => by simp [lineR]
  | k + 1, c => by
    unfold lineR
    split
    · rw [List.length_cons]; have := lineR_length T k (parD T c.toNat); omega
    · simp

theorem flat_step {α : Type} (f : Nat → List α) (L : List Nat) (j : Nat) (hj : j < L.length) : (L.drop j).reverse.flatMap f = (L.drop (j + 1)).reverse.flatMap f ++ f L[j] := by
  rw [List.drop_eq_getElem_cons hj, List.reverse_cons, List.flatMap_append]
  simp
theorem flat_le {α : Type} (f : Nat → List α) (L : List Nat) (j : Nat) : ((L.drop j).reverse.flatMap f).length ≤ (L.reverse.flatMap f).length := by
  have : L.reverse = (L.drop j).reverse ++ (L.take j).reverse := by rw [← List.reverse_append, List.take_append_drop]
  rw [this, List.flatMap_append, List.length_append]
  omega

set_option maxHeartbeats 1000000 in
theorem refFields_any (ao : Option Addr) (cap : Nat) (T : List Cl) (c : Int) (w : World) (h : TabAt w ao T) (hT : T.length * 48 ≤ 140737488351232) (hfit : (fieldsD T c).length ≤ 1000000) :
    Calls Tryd.prog 31 #[.slice ao T.length cap, .int .i64 c] w fun e w' => ∃ v, e = .returned v ∧ OwnF w' w.heap.size v (fieldsD T c) ∧ Below w.heap.size w w' := by
  obtain ⟨i0, hi, hz0, hz1, hz2⟩ := info_parts infoF
  have H := hide h
  have HT := hide hT
  have HF := hide hfit
  have hT2 : T.length < 9223372036854775800 := by omega
  clear h hT hfit
  go_enter Tryd.func31, Tryd.ntmps31
  go_wp2_with fail
  refine (Line_any ao cap T c _ (unhide H) (unhide HT)).mono ?_
  rintro e w1 ⟨lv, rfl, hL, hB1⟩
  obtain ⟨L, HLD⟩ : ∃ L, Hid (lineD T c = L) := ⟨_, hide rfl⟩
  rw [unhide HLD] at hL
  have HLt : Hid (∀ x ∈ L, x < T.length) := hide (by rw [← unhide HLD]; exact lineR_lt T _ _)
  have HFD : Hid (fieldsD T c = L.reverse.flatMap (fsD T)) := hide (by unfold fieldsD; rw [unhide HLD])
  obtain ⟨la, lc, rfl, hLc⟩ := hL.slice
  have HLc := hide hLc
  have hLl : L.length < 9223372036854775800 := by
    have h1 := lineR_length T (T.length + 1) c
    have h2 := unhide HLD
    unfold lineD at h2
    rw [h2] at h1
    have := unhide HT
    omega
  have HO1 := hide hL
  have HB1 := hide hB1
  have HTb := hide ((unhide H).below hB1)
  clear hL hB1 hLc
  go_wp2
  go_loopw [6, 7] (fun v i wr => ∃ k : Nat, k ≤ L.length ∧ i = .int .i64 ((k : Int) - 1) ∧ Hid (OwnF wr w1.heap.size v ((L.drop k).reverse.flatMap (fsD T))) ∧ Hid (Below w1.heap.size w1 wr)) (fun _ i _ => ((intOf i) + 1).toNat)
  case atStart => exact ⟨L.length, Nat.le_refl _, by go_num, hide (by rw [List.drop_length]; exact World.ownsRow_nil _ _ _ _), hide (Below.refl _ _)⟩
  case round =>
    obtain ⟨k, hk, rfl, HO, HB⟩ := hrel
    cases k with
    | zero =>
      go_wp2
      go_ret
      refine ⟨_, rfl, ?_, (unhide HB1).trans ((unhide HB).mono (unhide HB1).size)⟩
      rw [unhide HFD]
      exact rowMono (unhide HO) (unhide HB1).size
    | succ j =>
      have hj : j < L.length := by omega
      have i0' : (((j + 1 : Nat) : Int) - 1) = (j : Int) := by omega
      rw [i0']
      obtain ⟨g, rfl, hcj⟩ := unhide HLc j _ (List.getElem?_eq_getElem hj)
      have hcj' : wr.cell? ⟨g, j, none⟩ = some (.int .i64 ((L[j] : Nat) : Int)) := ((unhide HB).cell (p := ⟨g, j, none⟩) (World.block_lt_of_cell? w1 _ hcj)).trans hcj
      have hxl := unhide HLt _ (List.getElem_mem hj)
      have HFS := hide (flat_step (fsD T) L j hj)
      have HFL := hide (flat_le (fsD T) L j)
      generalize L[j] = x at hcj' hxl HFS
      have hTb := (unhide HTb).below (unhide HB)
      obtain ⟨b, off, rfl, hx⟩ := hTb x _ (List.getElem?_eq_getElem hxl)
      have d2 := hx.c2
      have hfx := fsD_at (List.getElem?_eq_getElem hxl)
      rw [hfx] at HFS
      have hnil := hx.nil
      have hfl := hx.flds
      generalize T[x].fs = fs at d2 HFS hnil hfl
      generalize T[x].fo = fo at d2 hnil hfl
      generalize T[x].fc = fc at d2 hnil
      have i1 : ((j : Nat) : Int) < ((L.length : Nat) : Int) := by omega
      have i2 : ((x : Nat) : Int) < ((T.length : Nat) : Int) := by omega
      have hlen : ((L.drop (j + 1)).reverse.flatMap (fsD T)).length + fs.length ≤ 1000000 := by
        have h1 := unhide HFL
        rw [unhide HFS, List.length_append] at h1
        have h2 := unhide HF
        rw [unhide HFD] at h2
        omega
      obtain ⟨M, HM⟩ : ∃ M, Hid ((L.drop (j + 1)).reverse.flatMap (fsD T) = M) := ⟨_, hide rfl⟩
      rw [unhide HM] at hlen HFS HO
      have HLn := hide hlen
      clear hcj hx hfx hTb HFL hlen i0' HM
      cases fo with
      | none =>
        obtain ⟨rfl, rfl⟩ := hnil rfl
        go_wp2_with (at_builtin; refine wpList_append_own_none rfl _ _ 36 rfl w1.heap.size 41 i0 2 Tryd.underlying36 hi _ _ _ rfl (unhide HO) rfl ?_)
        have HO2 : Hid (OwnF wr w1.heap.size _ ((L.drop j).reverse.flatMap (fsD T))) := hide (by rw [unhide HFS, List.append_nil]; exact unhide HO)
        clear HO HFS hnil hfl
        go_wp2
        go_roundw
        case rel => exact ⟨j, by omega, by go_num, HO2, HB⟩
        case measure => simp [intOf]
      | some x0 =>
        have hsrc : ∀ (i : Nat) u, (fvals fs)[i]? = some u → wr.cell? (x0.add i) = some u := by
          intro i u hu
          have hp : 0 < fs.length := by
            have := (List.getElem?_eq_some_iff.1 hu).1
            rw [fvals_length] at this
            omega
          obtain ⟨b2, off2, e2, _, h2⟩ := hfl.head hp
          injection e2 with e2
          subst e2
          rw [Addr.add_lit]
          exact fcells_at fs off2 h2 i u hu
        have HSr := hide hsrc
        clear hsrc hfl hnil
        go_wp2_with (at_builtin; refine wpList_append_own _ rfl _ _ 36 rfl w1.heap.size 41 i0 (.agg #[.string ⟨#[]⟩, .int .u8 0]) 2 24 Tryd.underlying36 hi hz0 hz1 hz2 rfl (by decide) _ _ _ rfl (unhide HO) x0 fs.length fc (fvals fs) rfl (fvals_length fs) (unhide HSr) (fvals_one fs) ?a3 ?a4 (unhide HB).size ?_)
        case a3 => have := unhide HLn; unfold maxLen; omega
        case a4 => have := unhide HLn; omega
        intro v' w2 hO' hG' _
        have HO2 : Hid (OwnF w2 w1.heap.size v' ((L.drop j).reverse.flatMap (fsD T))) := hide (by
          rw [unhide HFS]
          unfold OwnF
          rw [fvals_append, List.length_append]
          exact hO')
        have HB2 := hide ((unhide HB).grown hG' (unhide HB).size (fun k e => ((unhide HO).lt k e).1))
        clear HO HFS HB hO' hG' HSr
        go_wp2
        go_roundw
        case rel => exact ⟨j, by omega, by go_num, HO2, HB2⟩
        case measure => simp [intOf]
end Go.Proofs.YtnkhkppddlpcmaaDoor
