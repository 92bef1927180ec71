/-
  Contracts of types.Fields and Find: the fields along the line, the parents' ahead, in new memory; the first one of a name. Conditions: the table fits, and there are at most a million fields.
-/
import Derived.Test.YtnkhkppddlpcmaaDoorJTY
import Derived.Test.YtnkhkppddlpcmaaDoorKT02c
namespace Go.Proofs.YtnkhkppddlpcmaaDoor
open Go.RowKit Go.Shelf
set_option maxRecDepth 20000

def fieldsB (T : List Cl) (c : Int) : List Fl := (lineB T T.length c).reverse.flatMap (fsD T)

theorem flat_take {α : Type} (f : Nat → List α) (R : List Nat) (j : Nat) (hj : j < R.length) : (R.take (j + 1)).flatMap f = (R.take j).flatMap f ++ f R[j] := by
  rw [← List.take_append_getElem hj, List.flatMap_append]
  simp
theorem flat_take_le {α : Type} (f : Nat → List α) (R : List Nat) (j : Nat) : ((R.take j).flatMap f).length ≤ (R.flatMap f).length := by
  conv => rhs; rw [← List.take_append_drop j R]
  rw [List.flatMap_append, List.length_append]
  omega

set_option maxHeartbeats 2000000 in
theorem Fields_any (ao : Option Addr) (cap : Nat) (T : List Cl) (c : Int) (w : World) (h : TabAt w ao T) (hT : T.length * 48 ≤ 140737488351232) (hfit : (fieldsB T c).length ≤ 1000000) :
    Calls Tryd.prog 37 #[.slice ao T.length cap, .int .i64 c] w fun e w' => ∃ v, e = .returned v ∧ OwnF w' w.heap.size v (fieldsB T c) ∧ Below w.heap.size w w' := by
  obtain ⟨i0, hi, hz0, hz1, hz2⟩ := info_parts infoF
  have H := hide h
  have HT := hide hT
  have HF := hide hfit
  have hT2 : T.length < 9223372036854775800 := by omega
  have HLn : Hid ((lineB T T.length c).length ≤ 4000000000000) := hide (by have := lineB_length T _ T.length c (Nat.le_refl _); omega)
  have HLt : Hid (∀ x ∈ (lineB T T.length c).reverse, x < T.length) := hide (fun x hx => lineB_lt T _ _ _ (Nat.le_refl _) x (List.mem_reverse.1 hx))
  have HFD : Hid (fieldsB T c = (lineB T T.length c).reverse.flatMap (fsD T)) := hide rfl
  clear h hT hfit
  go_enter Tryd.func37, Tryd.ntmps37
  go_wp2_with fail
  refine (callsIn_wide.1 (lineMake_in 3 ao T.length cap c _)).mono ?_
  rintro e w1 ⟨rfl, hw1⟩
  have hB1 : Below w.heap.size w w1 := by rw [hw1]; exact ((Below.refl _ w).alloc (Nat.le_refl _) _).alloc (by simp) _
  have c0 : w1.cell? ⟨w.heap.size, 0, none⟩ = some (.slice ao T.length cap) := by rw [hw1]; exact cellAlloc _ (cellNew w _ _).1
  have c1 : w1.cell? ⟨w.heap.size + 1, 0, none⟩ = some (.int .i64 c) := by
    rw [hw1]
    have := cellNew (w.alloc (Obj.cells #[Value.slice ao T.length cap] 22)) (.int .i64 c) 3
    rw [World.size_alloc] at this
    exact this.1
  clear hw1
  go_wp2_with fail
  refine (Collect_line ao cap T c w _ (unhide H) (unhide HT) hB1 _ _ c1 c0).mono ?_
  rintro e w2 ⟨lv, rfl, hL, hB2⟩
  generalize lineB T T.length c = L at hL HLn HLt HFD
  obtain ⟨la, lc, rfl, _⟩ := hL.slice
  have HB2 : Hid (Below w.heap.size w w2) := hide (hB1.trans (hB2.mono hB1.size))
  have hs1 := hB1.size
  clear c0 c1
  go_wp2_with fail
  refine (Reverse_own hL (unhide HLn)).mono ?_
  rintro e w3 ⟨rfl, hR, hG3⟩
  have HB3 : Hid (Below w.heap.size w w3) := hide ((unhide HB2).grown hG3 (unhide HB2).size (fun k e => by have := (hL.lt k e).1; omega))
  have HRl : Hid (L.reverse.length = L.length) := hide (by simp)
  generalize L.reverse = R at hR HLt HFD HRl
  have hRL : R.length = L.length := unhide HRl
  rw [← hRL]
  have hLR : R.length ≤ 4000000000000 := by have := unhide HLn; omega
  have hLl : R.length < 9223372036854775000 := by omega
  obtain ⟨ra, rc, er, hRc⟩ := hR.slice
  rw [hRL] at er
  injection er with er1 _ er2
  subst er1 er2
  have HRc := hide hRc
  have HTb := hide ((unhide H).below (unhide HB3))
  clear hL hB2 hR hG3 hRc hRL HRl HLn hLR HB2 hB1 hs1
  go_wp2
  go_loopw [6, 17] (fun v i wr => ∃ k : Nat, k ≤ R.length ∧ i = .int .i64 (k : Int) ∧ Hid (OwnF wr w3.heap.size v ((R.take k).flatMap (fsD T))) ∧ Hid (Below w3.heap.size w3 wr)) (fun _ i _ => R.length - (intOf i).toNat)
  case atStart => exact ⟨0, Nat.zero_le _, rfl, hide (by rw [List.take_zero]; exact World.ownsRow_nil _ _ _ _), hide (Below.refl _ _)⟩
  case round =>
    obtain ⟨k, hk, rfl, HO, HB⟩ := hrel
    by_cases hlt : k < R.length
    · obtain ⟨g, rfl, hcj⟩ := unhide HRc k _ (List.getElem?_eq_getElem hlt)
      have hcj' : wr.cell? ⟨g, k, none⟩ = some (.int .i64 ((R[k] : Nat) : Int)) := ((unhide HB).cell (p := ⟨g, k, none⟩) (World.block_lt_of_cell? w3 _ hcj)).trans hcj
      have hxl := unhide HLt _ (List.getElem_mem hlt)
      have HFS := hide (flat_take (fsD T) R k hlt)
      have HFL := hide (flat_take_le (fsD T) R (k + 1))
      generalize R[k] = x at hcj' hxl HFS
      have hTb := (unhide HTb).below (unhide HB)
      obtain ⟨b, off, rfl, hx⟩ := hTb x _ (List.getElem?_eq_getElem hxl)
      have d2 := hx.c2
      have hfx := fsD_at (List.getElem?_eq_getElem hxl)
      rw [hfx] at HFS
      have hnil := hx.nil
      have hfl := hx.flds
      generalize T[x].fs = fs at d2 HFS hnil hfl
      generalize T[x].fo = fo at d2 hnil hfl
      generalize T[x].fc = fc at d2 hnil
      have i1 : ((k : Nat) : Int) < ((R.length : Nat) : Int) := by omega
      have i2 : ((x : Nat) : Int) < ((T.length : Nat) : Int) := by omega
      have hlen : ((R.take k).flatMap (fsD T)).length + fs.length ≤ 1000000 := by
        have h1 := unhide HFL
        rw [unhide HFS, List.length_append] at h1
        have h2 := unhide HF
        rw [unhide HFD] at h2
        omega
      obtain ⟨M, HM⟩ : ∃ M, Hid ((R.take k).flatMap (fsD T) = M) := ⟨_, hide rfl⟩
      rw [unhide HM] at hlen HFS HO
      have HLn := hide hlen
      clear hcj hx hfx hTb HFL hlen HM
      cases fo with
      | none =>
        obtain ⟨rfl, rfl⟩ := hnil rfl
        go_wp2_with (at_builtin; refine wpList_append_own_none rfl _ _ 36 rfl w3.heap.size 41 i0 2 Tryd.underlying36 hi _ _ _ rfl (unhide HO) rfl ?_)
        have HO2 : Hid (OwnF wr w3.heap.size _ ((R.take (k + 1)).flatMap (fsD T))) := hide (by rw [unhide HFS, List.append_nil]; exact unhide HO)
        clear HO HFS hnil hfl
        go_wp2
        go_roundw
        case rel => exact ⟨k + 1, by omega, by go_num, HO2, HB⟩
        case measure => simp [intOf]; omega
      | some x0 =>
        have hsrc : ∀ (i : Nat) u, (fvals fs)[i]? = some u → wr.cell? (x0.add i) = some u := by
          intro i u hu
          have hp : 0 < fs.length := by
            have := (List.getElem?_eq_some_iff.1 hu).1
            rw [fvals_length] at this
            omega
          obtain ⟨b2, off2, e2, _, h2⟩ := hfl.head hp
          injection e2 with e2
          subst e2
          rw [Addr.add_lit]
          exact fcells_at fs off2 h2 i u hu
        have HSr := hide hsrc
        clear hsrc hfl hnil
        go_wp2_with (at_builtin; refine wpList_append_own _ rfl _ _ 36 rfl w3.heap.size 41 i0 (.agg #[.string ⟨#[]⟩, .int .u8 0]) 2 24 Tryd.underlying36 hi hz0 hz1 hz2 rfl (by decide) _ _ _ rfl (unhide HO) x0 fs.length fc (fvals fs) rfl (fvals_length fs) (unhide HSr) (fvals_one fs) ?a3 ?a4 (unhide HB).size ?_)
        case a3 => have := unhide HLn; unfold maxLen; omega
        case a4 => have := unhide HLn; omega
        intro v' w4 hO' hG' _
        have HO2 : Hid (OwnF w4 w3.heap.size v' ((R.take (k + 1)).flatMap (fsD T))) := hide (by
          rw [unhide HFS]
          unfold OwnF
          rw [fvals_append, List.length_append]
          exact hO')
        have HB2 := hide ((unhide HB).grown hG' (unhide HB).size (fun k e => ((unhide HO).lt k e).1))
        clear HO HFS HB hO' hG' HSr
        go_wp2
        go_roundw
        case rel => exact ⟨k + 1, by omega, by go_num, HO2, HB2⟩
        case measure => simp [intOf]; omega
    · have i1 : ¬ ((k : Nat) : Int) < ((R.length : Nat) : Int) := by omega
      have HO2 : Hid (OwnF wr w3.heap.size _ (fieldsB T c)) := hide (by
        rw [unhide HFD]
        have := unhide HO
        rw [List.take_of_length_le (by omega)] at this
        exact this)
      clear HO
      go_wp2
      go_ret
      exact ⟨_, rfl, rowMono (unhide HO2) (unhide HB3).size, (unhide HB3).trans ((unhide HB).mono (unhide HB3).size)⟩

theorem fieldsB_ok {W : World} {ao : Option Addr} {T : List Cl} (h : TabAt W ao T) (c : Int) : ∀ f ∈ fieldsB T c, FlOk f := by
  intro f hf
  unfold fieldsB at hf
  obtain ⟨k, _, hk⟩ := List.mem_flatMap.1 hf
  unfold fsD at hk
  cases hT : T[k]? with
  | none => rw [hT] at hk; simp at hk
  | some x =>
    rw [hT] at hk
    obtain ⟨b, off, _, hx⟩ := h k x hT
    obtain ⟨j, hj, rfl⟩ := List.getElem_of_mem hk
    obtain ⟨_, _, _, hfl⟩ := hx.flds j _ (List.getElem?_eq_getElem hj)
    exact ⟨hfl.name, hfl.ty⟩

/-- The first field of a name. -/
def findD : List Fl → ByteArray → Nat → Option (Nat × Nat)
  | [], _, _ => none
  | f :: fs, s, i => if (f.nm.toList == s.toList) = true then some (i, f.ty) else findD fs s (i + 1)
def findV : Option (Nat × Nat) → Value
  | some (i, t) => .tuple #[.int .i64 (i : Int), .int .u8 (t : Int), .bool true]
  | none => .tuple #[.int .i64 0, .int .u8 0, .bool false]

end Go.Proofs.YtnkhkppddlpcmaaDoor
