/-
  Texts of contracts and plain lemmas, one behind another; each says at its head what it holds.
-/
import Derived.Test.YtbbfnampjbdnbaaDoorJTY
import Derived.Test.YtbbfnampjbdnbaaDoorNm
/-
  The contract of provisoref02's Fields: what the plain function 'fieldsD' says, in new memory. Conditions: the table fits, and there are at most a million fields.
-/
namespace Go.Proofs.YtbbfnampjbdnbaaDoor
open Go.RowKit
set_option maxRecDepth 20000

theorem rowMono {w : World} {base base' : Nat} {t : TypeId} {s : Nat} {v : Value} {n : Nat} {cs : List Value} (h : w.ownsRow base t s v n cs) (hb : base' ≤ base) : w.ownsRow base' t s v n cs := by
  refine ⟨h.1, ?_⟩
  rcases h.2 with h1 | ⟨g, cap, cur, hv, hbg, r⟩
  · exact Or.inl h1
  · exact Or.inr ⟨g, cap, cur, hv, by omega, r⟩

theorem lineR_length (T : List Cl) : ∀ (k : Nat) (c : Int), (lineR T k c).length ≤ k
  | 0, c => by simp [lineR]
  | k + 1, c => by
    unfold lineR
    split
    · rw [List.length_cons]; have := lineR_length T k (parD T c.toNat); omega
    · simp

theorem flat_step {α : Type} (f : Nat → List α) (L : List Nat) (j : Nat) (hj : j < L.length) : (L.drop j).reverse.flatMap f = (L.drop (j + 1)).reverse.flatMap f ++ f L[j] := by
  rw [List.drop_eq_getElem_cons hj, List.reverse_cons, List.flatMap_append]
  simp
theorem flat_le {α : Type} (f : Nat → List α) (L : List Nat) (j : Nat) : ((L.drop j).reverse.flatMap f).length ≤ (L.reverse.flatMap f).length := by
  have : L.reverse = (L.drop j).reverse ++ (L.take j).reverse := by rw [← List.reverse_append, List.take_append_drop]
  rw [this, List.flatMap_append, List.length_append]
  omega

set_option maxHeartbeats 1000000 in
theorem refFields_any (ao : Option Addr) (cap : Nat) (T : List Cl) (c : Int) (w : World) (h : TabAt w ao T) (hT : T.length * 48 ≤ 140737488351232) (hfit : (fieldsD T c).length ≤ 1000000) :
    Calls Tryd.prog 45 #[.slice ao T.length cap, .int .i64 c] w fun e w' => ∃ v, e = .returned v ∧ OwnF w' w.heap.size v (fieldsD T c) ∧ Below w.heap.size w w' := by
  obtain ⟨i0, hi, hz0, hz1, hz2⟩ := info_parts infoF
  have H := hide h
  have HT := hide hT
  have HF := hide hfit
  have hT2 : T.length < 9223372036854775800 := by omega
  clear h hT hfit
  go_enter Tryd.func45, Tryd.ntmps45
  go_wp2_with fail
  refine (Line_any ao cap T c _ (unhide H) (unhide HT)).mono ?_
  rintro e w1 ⟨lv, rfl, hL, hB1⟩
  obtain ⟨L, HLD⟩ : ∃ L, Hid (lineD T c = L) := ⟨_, hide rfl⟩
  rw [unhide HLD] at hL
  have HLt : Hid (∀ x ∈ L, x < T.length) := hide (by rw [← unhide HLD]; exact lineR_lt T _ _)
  have HFD : Hid (fieldsD T c = L.reverse.flatMap (fsD T)) := hide (by unfold fieldsD; rw [unhide HLD])
  obtain ⟨la, lc, rfl, hLc⟩ := hL.slice
  have HLc := hide hLc
  have hLl : L.length < 9223372036854775800 := by
    have h1 := lineR_length T (T.length + 1) c
    have h2 := unhide HLD
    unfold lineD at h2
    rw [h2] at h1
    have := unhide HT
    omega
  have HO1 := hide hL
  have HB1 := hide hB1
  have HTb := hide ((unhide H).below hB1)
  clear hL hB1 hLc
  go_wp2
  go_loopw [6, 7] (fun v i wr => ∃ k : Nat, k ≤ L.length ∧ i = .int .i64 ((k : Int) - 1) ∧ Hid (OwnF wr w1.heap.size v ((L.drop k).reverse.flatMap (fsD T))) ∧ Hid (Below w1.heap.size w1 wr)) (fun _ i _ => ((intOf i) + 1).toNat)
  case atStart => exact ⟨L.length, Nat.le_refl _, by go_num, hide (by rw [List.drop_length]; exact World.ownsRow_nil _ _ _ _), hide (Below.refl _ _)⟩
  case round =>
    obtain ⟨k, hk, rfl, HO, HB⟩ := hrel
    cases k with
    | zero =>
      go_wp2
      go_ret
      refine ⟨_, rfl, ?_, (unhide HB1).trans ((unhide HB).mono (unhide HB1).size)⟩
      rw [unhide HFD]
      exact rowMono (unhide HO) (unhide HB1).size
    | succ j =>
      have hj : j < L.length := by omega
      have i0' : (((j + 1 : Nat) : Int) - 1) = (j : Int) := by omega
      rw [i0']
      obtain ⟨g, rfl, hcj⟩ := unhide HLc j _ (List.getElem?_eq_getElem hj)
      have hcj' : wr.cell? ⟨g, j, none⟩ = some (.int .i64 ((L[j] : Nat) : Int)) := ((unhide HB).cell (p := ⟨g, j, none⟩) (World.block_lt_of_cell? w1 _ hcj)).trans hcj
      have hxl := unhide HLt _ (List.getElem_mem hj)
      have HFS := hide (flat_step (fsD T) L j hj)
      have HFL := hide (flat_le (fsD T) L j)
      generalize L[j] = x at hcj' hxl HFS
      have hTb := (unhide HTb).below (unhide HB)
      obtain ⟨b, off, rfl, hx⟩ := hTb x _ (List.getElem?_eq_getElem hxl)
      have d2 := hx.c2
      have hfx := fsD_at (List.getElem?_eq_getElem hxl)
      rw [hfx] at HFS
      have hnil := hx.nil
      have hfl := hx.flds
      generalize T[x].fs = fs at d2 HFS hnil hfl
      generalize T[x].fo = fo at d2 hnil hfl
      generalize T[x].fc = fc at d2 hnil
      have i1 : ((j : Nat) : Int) < ((L.length : Nat) : Int) := by omega
      have i2 : ((x : Nat) : Int) < ((T.length : Nat) : Int) := by omega
      have hlen : ((L.drop (j + 1)).reverse.flatMap (fsD T)).length + fs.length ≤ 1000000 := by
        have h1 := unhide HFL
        rw [unhide HFS, List.length_append] at h1
        have h2 := unhide HF
        rw [unhide HFD] at h2
        omega
      obtain ⟨M, HM⟩ : ∃ M, Hid ((L.drop (j + 1)).reverse.flatMap (fsD T) = M) := ⟨_, hide rfl⟩
      rw [unhide HM] at hlen HFS HO
      have HLn := hide hlen
      clear hcj hx hfx hTb HFL hlen i0' HM
      cases fo with
      | none =>
        obtain ⟨rfl, rfl⟩ := hnil rfl
        go_wp2_with (at_builtin; refine wpList_append_own_none rfl _ _ 36 rfl w1.heap.size 41 i0 2 Tryd.underlying36 hi _ _ _ rfl (unhide HO) rfl ?_)
        have HO2 : Hid (OwnF wr w1.heap.size _ ((L.drop j).reverse.flatMap (fsD T))) := hide (by rw [unhide HFS, List.append_nil]; exact unhide HO)
        clear HO HFS hnil hfl
        go_wp2
        go_roundw
        case rel => exact ⟨j, by omega, by go_num, HO2, HB⟩
        case measure => simp [intOf]
      | some x0 =>
        have hsrc : ∀ (i : Nat) u, (fvals fs)[i]? = some u → wr.cell? (x0.add i) = some u := by
          intro i u hu
          have hp : 0 < fs.length := by
            have := (List.getElem?_eq_some_iff.1 hu).1
            rw [fvals_length] at this
            omega
          obtain ⟨b2, off2, e2, _, h2⟩ := hfl.head hp
          injection e2 with e2
          subst e2
          rw [Addr.add_lit]
          exact fcells_at fs off2 h2 i u hu
        have HSr := hide hsrc
        clear hsrc hfl hnil
        go_wp2_with (at_builtin; refine wpList_append_own _ rfl _ _ 36 rfl w1.heap.size 41 i0 (.agg #[.string ⟨#[]⟩, .int .u8 0]) 2 24 Tryd.underlying36 hi hz0 hz1 hz2 rfl (by decide) _ _ _ rfl (unhide HO) x0 fs.length fc (fvals fs) rfl (fvals_length fs) (unhide HSr) (fvals_one fs) ?a3 ?a4 (unhide HB).size ?_)
        case a3 => have := unhide HLn; unfold maxLen; omega
        case a4 => have := unhide HLn; omega
        intro v' w2 hO' hG' _
        have HO2 : Hid (OwnF w2 w1.heap.size v' ((L.drop j).reverse.flatMap (fsD T))) := hide (by
          rw [unhide HFS]
          unfold OwnF
          rw [fvals_append, List.length_append]
          exact hO')
        have HB2 := hide ((unhide HB).grown hG' (unhide HB).size (fun k e => ((unhide HO).lt k e).1))
        clear HO HFS HB hO' hG' HSr
        go_wp2
        go_roundw
        case rel => exact ⟨j, by omega, by go_num, HO2, HB2⟩
        case measure => simp [intOf]
end Go.Proofs.YtbbfnampjbdnbaaDoor

/-
  Contracts of types.Fields and Find: the fields along the line, the parents' ahead, in new memory; the first one of a name. Conditions: the table fits, and there are at most a million fields.
-/
namespace Go.Proofs.YtbbfnampjbdnbaaDoor
open Go.RowKit Go.Shelf
set_option maxRecDepth 20000

def fieldsB (T : List Cl) (c : Int) : List Fl := (lineB T T.length c).reverse.flatMap (fsD T)

theorem flat_take {α : Type} (f : Nat → List α) (R : List Nat) (j : Nat) (hj : j < R.length) : (R.take (j + 1)).flatMap f = (R.take j).flatMap f ++ f R[j] := by
  rw [← List.take_append_getElem hj, List.flatMap_append]
  simp
theorem flat_take_le {α : Type} (f : Nat → List α) (R : List Nat) (j : Nat) : ((R.take j).flatMap f).length ≤ (R.flatMap f).length := by
  conv => rhs; rw [← List.take_append_drop j R]
  rw [List.flatMap_append, List.length_append]
  omega

set_option maxHeartbeats 2000000 in
theorem Fields_any (ao : Option Addr) (cap : Nat) (T : List Cl) (c : Int) (w : World) (h : TabAt w ao T) (hT : T.length * 48 ≤ 140737488351232) (hfit : (fieldsB T c).length ≤ 1000000) :
    Calls Tryd.prog 12 #[.slice ao T.length cap, .int .i64 c] w fun e w' => ∃ v, e = .returned v ∧ OwnF w' w.heap.size v (fieldsB T c) ∧ Below w.heap.size w w' := by
  obtain ⟨i0, hi, hz0, hz1, hz2⟩ := info_parts infoF
  have H := hide h
  have HT := hide hT
  have HF := hide hfit
  have hT2 : T.length < 9223372036854775800 := by omega
  have HLn : Hid ((lineB T T.length c).length ≤ 4000000000000) := hide (by have := lineB_length T _ T.length c (Nat.le_refl _); omega)
  have HLt : Hid (∀ x ∈ (lineB T T.length c).reverse, x < T.length) := hide (fun x hx => lineB_lt T _ _ _ (Nat.le_refl _) x (List.mem_reverse.1 hx))
  have HFD : Hid (fieldsB T c = (lineB T T.length c).reverse.flatMap (fsD T)) := hide rfl
  clear h hT hfit
  go_enter Tryd.func12, Tryd.ntmps12
  go_wp2_with fail
  refine (callsIn_wide.1 (lineMake_in 3 ao T.length cap c _)).mono ?_
  rintro e w1 ⟨rfl, hw1⟩
  have hB1 : Below w.heap.size w w1 := by rw [hw1]; exact ((Below.refl _ w).alloc (Nat.le_refl _) _).alloc (by simp) _
  have c0 : w1.cell? ⟨w.heap.size, 0, none⟩ = some (.slice ao T.length cap) := by rw [hw1]; exact cellAlloc _ (cellNew w _ _).1
  have c1 : w1.cell? ⟨w.heap.size + 1, 0, none⟩ = some (.int .i64 c) := by
    rw [hw1]
    have := cellNew (w.alloc (Obj.cells #[Value.slice ao T.length cap] 22)) (.int .i64 c) 3
    rw [World.size_alloc] at this
    exact this.1
  clear hw1
  go_wp2_with fail
  refine (Collect_line ao cap T c w _ (unhide H) (unhide HT) hB1 _ _ c1 c0).mono ?_
  rintro e w2 ⟨lv, rfl, hL, hB2⟩
  generalize lineB T T.length c = L at hL HLn HLt HFD
  obtain ⟨la, lc, rfl, _⟩ := hL.slice
  have HB2 : Hid (Below w.heap.size w w2) := hide (hB1.trans (hB2.mono hB1.size))
  have hs1 := hB1.size
  clear c0 c1
  go_wp2_with fail
  refine (Reverse_own hL (unhide HLn)).mono ?_
  rintro e w3 ⟨rfl, hR, hG3⟩
  have HB3 : Hid (Below w.heap.size w w3) := hide ((unhide HB2).grown hG3 (unhide HB2).size (fun k e => by have := (hL.lt k e).1; omega))
  have HRl : Hid (L.reverse.length = L.length) := hide (by simp)
  generalize L.reverse = R at hR HLt HFD HRl
  have hRL : R.length = L.length := unhide HRl
  rw [← hRL]
  have hLR : R.length ≤ 4000000000000 := by have := unhide HLn; omega
  have hLl : R.length < 9223372036854775000 := by omega
  obtain ⟨ra, rc, er, hRc⟩ := hR.slice
  rw [hRL] at er
  injection er with er1 _ er2
  subst er1 er2
  have HRc := hide hRc
  have HTb := hide ((unhide H).below (unhide HB3))
  clear hL hB2 hR hG3 hRc hRL HRl HLn hLR HB2 hB1 hs1
  go_wp2
  go_loopw [6, 17] (fun v i wr => ∃ k : Nat, k ≤ R.length ∧ i = .int .i64 (k : Int) ∧ Hid (OwnF wr w3.heap.size v ((R.take k).flatMap (fsD T))) ∧ Hid (Below w3.heap.size w3 wr)) (fun _ i _ => R.length - (intOf i).toNat)
  case atStart => exact ⟨0, Nat.zero_le _, rfl, hide (by rw [List.take_zero]; exact World.ownsRow_nil _ _ _ _), hide (Below.refl _ _)⟩
  case round =>
    obtain ⟨k, hk, rfl, HO, HB⟩ := hrel
    by_cases hlt : k < R.length
    · obtain ⟨g, rfl, hcj⟩ := unhide HRc k _ (List.getElem?_eq_getElem hlt)
      have hcj' : wr.cell? ⟨g, k, none⟩ = some (.int .i64 ((R[k] : Nat) : Int)) := ((unhide HB).cell (p := ⟨g, k, none⟩) (World.block_lt_of_cell? w3 _ hcj)).trans hcj
      have hxl := unhide HLt _ (List.getElem_mem hlt)
      have HFS := hide (flat_take (fsD T) R k hlt)
      have HFL := hide (flat_take_le (fsD T) R (k + 1))
      generalize R[k] = x at hcj' hxl HFS
      have hTb := (unhide HTb).below (unhide HB)
      obtain ⟨b, off, rfl, hx⟩ := hTb x _ (List.getElem?_eq_getElem hxl)
      have d2 := hx.c2
      have hfx := fsD_at (List.getElem?_eq_getElem hxl)
      rw [hfx] at HFS
      have hnil := hx.nil
      have hfl := hx.flds
      generalize T[x].fs = fs at d2 HFS hnil hfl
      generalize T[x].fo = fo at d2 hnil hfl
      generalize T[x].fc = fc at d2 hnil
      have i1 : ((k : Nat) : Int) < ((R.length : Nat) : Int) := by omega
      have i2 : ((x : Nat) : Int) < ((T.length : Nat) : Int) := by omega
      have hlen : ((R.take k).flatMap (fsD T)).length + fs.length ≤ 1000000 := by
        have h1 := unhide HFL
        rw [unhide HFS, List.length_append] at h1
        have h2 := unhide HF
        rw [unhide HFD] at h2
        omega
      obtain ⟨M, HM⟩ : ∃ M, Hid ((R.take k).flatMap (fsD T) = M) := ⟨_, hide rfl⟩
      rw [unhide HM] at hlen HFS HO
      have HLn := hide hlen
      clear hcj hx hfx hTb HFL hlen HM
      cases fo with
      | none =>
        obtain ⟨rfl, rfl⟩ := hnil rfl
        go_wp2_with (at_builtin; refine wpList_append_own_none rfl _ _ 36 rfl w3.heap.size 41 i0 2 Tryd.underlying36 hi _ _ _ rfl (unhide HO) rfl ?_)
        have HO2 : Hid (OwnF wr w3.heap.size _ ((R.take (k + 1)).flatMap (fsD T))) := hide (by rw [unhide HFS, List.append_nil]; exact unhide HO)
        clear HO HFS hnil hfl
        go_wp2
        go_roundw
        case rel => exact ⟨k + 1, by omega, by go_num, HO2, HB⟩
        case measure => simp [intOf]; omega
      | some x0 =>
        have hsrc : ∀ (i : Nat) u, (fvals fs)[i]? = some u → wr.cell? (x0.add i) = some u := by
          intro i u hu
          have hp : 0 < fs.length := by
            have := (List.getElem?_eq_some_iff.1 hu).1
            rw [fvals_length] at this
            omega
          obtain ⟨b2, off2, e2, _, h2⟩ := hfl.head hp
          injection e2 with e2
          subst e2
          rw [Addr.add_lit]
          exact fcells_at fs off2 h2 i u hu
        have HSr := hide hsrc
        clear hsrc hfl hnil
        go_wp2_with (at_builtin; refine wpList_append_own _ rfl _ _ 36 rfl w3.heap.size 41 i0 (.agg #[.string ⟨#[]⟩, .int .u8 0]) 2 24 Tryd.underlying36 hi hz0 hz1 hz2 rfl (by decide) _ _ _ rfl (unhide HO) x0 fs.length fc (fvals fs) rfl (fvals_length fs) (unhide HSr) (fvals_one fs) ?a3 ?a4 (unhide HB).size ?_)
        case a3 => have := unhide HLn; unfold maxLen; omega
        case a4 => have := unhide HLn; omega
        intro v' w4 hO' hG' _
        have HO2 : Hid (OwnF w4 w3.heap.size v' ((R.take (k + 1)).flatMap (fsD T))) := hide (by
          rw [unhide HFS]
          unfold OwnF
          rw [fvals_append, List.length_append]
          exact hO')
        have HB2 := hide ((unhide HB).grown hG' (unhide HB).size (fun k e => ((unhide HO).lt k e).1))
        clear HO HFS HB hO' hG' HSr
        go_wp2
        go_roundw
        case rel => exact ⟨k + 1, by omega, by go_num, HO2, HB2⟩
        case measure => simp [intOf]; omega
    · have i1 : ¬ ((k : Nat) : Int) < ((R.length : Nat) : Int) := by omega
      have HO2 : Hid (OwnF wr w3.heap.size _ (fieldsB T c)) := hide (by
        rw [unhide HFD]
        have := unhide HO
        rw [List.take_of_length_le (by omega)] at this
        exact this)
      clear HO
      go_wp2
      go_ret
      exact ⟨_, rfl, rowMono (unhide HO2) (unhide HB3).size, (unhide HB3).trans ((unhide HB).mono (unhide HB3).size)⟩

theorem fieldsB_ok {W : World} {ao : Option Addr} {T : List Cl} (h : TabAt W ao T) (c : Int) : ∀ f ∈ fieldsB T c, FlOk f := by
  intro f hf
  unfold fieldsB at hf
  obtain ⟨k, _, hk⟩ := List.mem_flatMap.1 hf
  unfold fsD at hk
  cases hT : T[k]? with
  | none => rw [hT] at hk; simp at hk
  | some x =>
    rw [hT] at hk
    obtain ⟨b, off, _, hx⟩ := h k x hT
    obtain ⟨j, hj, rfl⟩ := List.getElem_of_mem hk
    obtain ⟨_, _, _, hfl⟩ := hx.flds j _ (List.getElem?_eq_getElem hj)
    exact ⟨hfl.name, hfl.ty⟩

/-- The first field of a name. -/
def findD : List Fl → ByteArray → Nat → Option (Nat × Nat)
  | [], _, _ => none
  | f :: fs, s, i => if (f.nm.toList == s.toList) = true then some (i, f.ty) else findD fs s (i + 1)
def findV : Option (Nat × Nat) → Value
  | some (i, t) => .tuple #[.int .i64 (i : Int), .int .u8 (t : Int), .bool true]
  | none => .tuple #[.int .i64 0, .int .u8 0, .bool false]

end Go.Proofs.YtbbfnampjbdnbaaDoor

/-
  Contracts of provisoref02's fault, Check and Made: what the plain functions 'faultD' and 'madeD' say; nothing old is turned. Conditions: the table fits; of fault, that the classes ahead are right.
-/
namespace Go.Proofs.YtbbfnampjbdnbaaDoor
open Go.RowKit
set_option maxRecDepth 20000

def scanD (n : Nat) (all : List Fl) : List Fl → List Fl → Int
  | pre, [] => if 32 - (all.length : Int) < (pre.length : Int) then 4 else 0
  | pre, f :: rest => if nameB f.nm = false then 6 else if (hasD all f.nm || hasD pre f.nm) = true then 20 else if storedD n f.ty = false then 22 else scanD n all (pre ++ [f]) rest

def twiceD (T : List Cl) (c : Nat) (s : ByteArray) : Bool := (T.take c).any fun y => y.nm.toList == s.toList
def faultD (T : List Cl) (c : Nat) : Int := match T[c]? with
  | none => 0
  | some x => if 32 ≤ c then 4 else if (!nameB x.nm || isWordD x.nm) = true then 6 else if twiceD T c x.nm = true then 20 else if x.par < -1 ∨ (c : Int) ≤ x.par then 21 else scanD T.length (fieldsD T x.par) [] x.fs

theorem scanD_le (n : Nat) (all : List Fl) : ∀ (rest pre : List Fl), scanD n all pre rest = 0 → all.length + pre.length + rest.length ≤ 32
  | [], pre, h => by
    unfold scanD at h
    by_cases e : 32 - (all.length : Int) < (pre.length : Int)
    · rw [if_pos e] at h; omega
    · simp; omega
  | f :: rest, pre, h => by
    unfold scanD at h
    by_cases e1 : nameB f.nm = false
    · rw [if_pos e1] at h; omega
    · rw [if_neg e1] at h
      by_cases e2 : (hasD all f.nm || hasD pre f.nm) = true
      · rw [if_pos e2] at h; omega
      · rw [if_neg e2] at h
        by_cases e3 : storedD n f.ty = false
        · rw [if_pos e3] at h; omega
        · rw [if_neg e3] at h
          have := scanD_le n all rest (pre ++ [f]) h
          simp at this ⊢
          omega

structure GoodC (T : List Cl) (c : Nat) (x : Cl) : Prop where
  lt : c < 32
  name : nameB x.nm = true
  word : isWordD x.nm = false
  once : twiceD T c x.nm = false
  lo : -1 ≤ x.par
  hi : x.par < (c : Int)
  scan : scanD T.length (fieldsD T x.par) [] x.fs = 0
theorem faultD_zero {T : List Cl} {c : Nat} {x : Cl} (hx : T[c]? = some x) (h : faultD T c = 0) : GoodC T c x := by
  unfold faultD at h
  rw [hx] at h
  simp only at h
  by_cases e1 : 32 ≤ c
  · rw [if_pos e1] at h; omega
  · rw [if_neg e1] at h
    by_cases e2 : (!nameB x.nm || isWordD x.nm) = true
    · rw [if_pos e2] at h; omega
    · rw [if_neg e2] at h
      by_cases e3 : twiceD T c x.nm = true
      · rw [if_pos e3] at h; omega
      · rw [if_neg e3] at h
        by_cases e4 : x.par < -1 ∨ (c : Int) ≤ x.par
        · rw [if_pos e4] at h; omega
        · rw [if_neg e4] at h
          simp at e2
          exact ⟨by omega, e2.1, e2.2, by simpa using e3, by omega, by omega, h⟩

/-- How long a line is let be does not matter where parents stand ahead. -/
theorem lineR_fuel {T : List Cl} {n : Nat} (hn : ∀ k, k < n → parD T k < (k : Int)) : ∀ (m : Nat) (q : Int), q < (n : Int) → q.toNat ≤ m → ∀ k k' : Nat, q + 1 ≤ (k : Int) → q + 1 ≤ (k' : Int) → 0 < k → 0 < k' → lineR T k q = lineR T k' q := by
  intro m
  induction m with
  | zero =>
    intro q hq hm k k' h1 h2 p1 p2
    obtain ⟨a, rfl⟩ : ∃ a, k = a + 1 := ⟨k - 1, by omega⟩
    obtain ⟨b, rfl⟩ : ∃ b, k' = b + 1 := ⟨k' - 1, by omega⟩
    by_cases hc : 0 ≤ q ∧ q < (T.length : Int)
    · rw [lineR, if_pos hc, lineR, if_pos hc]
      congr 1
      have := hn q.toNat (by omega)
      rw [lineR_out _ (by omega), lineR_out _ (by omega)]
    · rw [lineR_out _ hc, lineR_out _ hc]
  | succ m ih =>
    intro q hq hm k k' h1 h2 p1 p2
    obtain ⟨a, rfl⟩ : ∃ a, k = a + 1 := ⟨k - 1, by omega⟩
    obtain ⟨b, rfl⟩ : ∃ b, k' = b + 1 := ⟨k' - 1, by omega⟩
    by_cases hc : 0 ≤ q ∧ q < (T.length : Int)
    · rw [lineR, if_pos hc, lineR, if_pos hc]
      congr 1
      have h3 := hn q.toNat (by omega)
      by_cases h4 : 0 ≤ parD T q.toNat
      · exact ih _ (by omega) (by omega) a b (by omega) (by omega) (by omega) (by omega)
      · rw [lineR_out _ (by omega), lineR_out _ (by omega)]
    · rw [lineR_out _ hc, lineR_out _ hc]

/-- The line of a class whose parents stand ahead. -/
theorem lineD_step {T : List Cl} {n : Nat} (hn : ∀ k, k < n → parD T k < (k : Int)) {p : Nat} (hp : p < n) (hl : p < T.length) : lineD T (p : Int) = p :: lineD T (parD T p) := by
  unfold lineD
  rw [lineR_in _ hl]
  congr 1
  have h3 := hn p hp
  by_cases h4 : 0 ≤ parD T p
  · exact lineR_fuel hn (parD T p).toNat _ (by omega) (Nat.le_refl _) _ _ (by omega) (by omega) (by omega) (by omega)
  · rw [lineR_out _ (by omega), lineR_out _ (by omega)]
theorem fieldsD_step {T : List Cl} {n : Nat} (hn : ∀ k, k < n → parD T k < (k : Int)) {p : Nat} (hp : p < n) (hl : p < T.length) : fieldsD T (p : Int) = fieldsD T (parD T p) ++ fsD T p := by
  unfold fieldsD
  rw [lineD_step hn hp hl, List.reverse_cons, List.flatMap_append]
  simp
theorem fieldsD_out {T : List Cl} {c : Int} (h : c < 0) : fieldsD T c = [] := by
  unfold fieldsD lineD
  rw [lineR_out _ (by omega)]
  rfl
theorem prev_par {T : List Cl} {c : Nat} (hc : c ≤ T.length) (h : ∀ k, k < c → faultD T k = 0) : ∀ k, k < c → parD T k < (k : Int) := by
  intro k hk
  have hx := List.getElem?_eq_getElem (show k < T.length by omega)
  rw [parD_at hx]
  exact (faultD_zero hx (h k hk)).hi
theorem fieldsD_le {T : List Cl} {c : Nat} (hc : c ≤ T.length) (h : ∀ k, k < c → faultD T k = 0) (p : Int) (hp : p < (c : Int)) : (fieldsD T p).length ≤ 32 := by
  by_cases h0 : p < 0
  · rw [fieldsD_out h0]; simp
  · obtain ⟨q, rfl⟩ : ∃ q : Nat, p = (q : Int) := ⟨p.toNat, by omega⟩
    have hx := List.getElem?_eq_getElem (show q < T.length by omega)
    have hg := faultD_zero hx (h q (by omega))
    rw [fieldsD_step (prev_par hc h) (by omega) (by omega), List.length_append, parD_at hx, fsD_at hx]
    have := scanD_le _ _ _ _ hg.scan
    simp at this
    exact this

theorem fieldsD_ok {W : World} {ao : Option Addr} {T : List Cl} (h : TabAt W ao T) (c : Int) : ∀ f ∈ fieldsD T c, FlOk f := by
  intro f hf
  unfold fieldsD at hf
  obtain ⟨k, _, hk⟩ := List.mem_flatMap.1 hf
  unfold fsD at hk
  cases hT : T[k]? with
  | none => rw [hT] at hk; simp at hk
  | some x =>
    rw [hT] at hk
    obtain ⟨b, off, _, hx⟩ := h k x hT
    obtain ⟨j, hj, rfl⟩ := List.getElem_of_mem hk
    obtain ⟨_, _, _, hfl⟩ := hx.flds j _ (List.getElem?_eq_getElem hj)
    exact ⟨hfl.name, hfl.ty⟩

theorem twiceD_snoc {T : List Cl} {k : Nat} (s : ByteArray) (h : k < T.length) : twiceD T (k + 1) s = (twiceD T k s || (T[k].nm.toList == s.toList)) := by
  unfold twiceD
  rw [← List.take_append_getElem h, List.any_append]
  simp
theorem twiceD_found {T : List Cl} {k c : Nat} {s : ByteArray} (hk : k < c) (h : k < T.length) (hb : (T[k].nm.toList == s.toList) = true) : twiceD T c s = true := by
  unfold twiceD
  rw [List.any_eq_true]
  exact ⟨T[k], by rw [List.mem_take_iff_getElem]; exact ⟨k, by omega, rfl⟩, hb⟩
theorem FsAt.take {W : World} {fo : Option Addr} {fs : List Fl} (h : FsAt W fo fs) (k : Nat) : FsAt W fo (fs.take k) := fun i f hf => by
  rw [List.getElem?_take] at hf
  by_cases e : i < k
  · rw [if_pos e] at hf; exact h i f hf
  · rw [if_neg e] at hf; simp at hf
theorem scanD_step (n : Nat) (all fs : List Fl) (k : Nat) (hk : k < fs.length) : scanD n all (fs.take k) (fs.drop k) = if nameB fs[k].nm = false then 6 else if (hasD all fs[k].nm || hasD (fs.take k) fs[k].nm) = true then 20 else if storedD n fs[k].ty = false then 22 else scanD n all (fs.take (k + 1)) (fs.drop (k + 1)) := by
  rw [List.drop_eq_getElem_cons hk, scanD, List.take_append_getElem hk]

theorem faultD_6 {T : List Cl} {c : Nat} {x : Cl} (hx : T[c]? = some x) (h : ¬ 32 ≤ c) (h2 : (!nameB x.nm || isWordD x.nm) = true) : faultD T c = 6 := by
  unfold faultD; rw [hx]; simp only; rw [if_neg h, if_pos h2]
theorem faultD_20 {T : List Cl} {c : Nat} {x : Cl} (hx : T[c]? = some x) (h : ¬ 32 ≤ c) (h2 : ¬ (!nameB x.nm || isWordD x.nm) = true) (h3 : twiceD T c x.nm = true) : faultD T c = 20 := by
  unfold faultD; rw [hx]; simp only; rw [if_neg h, if_neg h2, if_pos h3]
theorem faultD_21 {T : List Cl} {c : Nat} {x : Cl} (hx : T[c]? = some x) (h : ¬ 32 ≤ c) (h2 : ¬ (!nameB x.nm || isWordD x.nm) = true) (h3 : ¬ twiceD T c x.nm = true) (h4 : x.par < -1 ∨ (c : Int) ≤ x.par) : faultD T c = 21 := by
  unfold faultD; rw [hx]; simp only; rw [if_neg h, if_neg h2, if_neg h3, if_pos h4]
theorem faultD_scan {T : List Cl} {c : Nat} {x : Cl} (hx : T[c]? = some x) (h : ¬ 32 ≤ c) (h2 : ¬ (!nameB x.nm || isWordD x.nm) = true) (h3 : ¬ twiceD T c x.nm = true) (h4 : ¬ (x.par < -1 ∨ (c : Int) ≤ x.par)) : faultD T c = scanD T.length (fieldsD T x.par) [] x.fs := by
  unfold faultD; rw [hx]; simp only; rw [if_neg h, if_neg h2, if_neg h3, if_neg h4]

set_option maxHeartbeats 4000000 in
theorem fault_any (ao : Option Addr) (cap : Nat) (T : List Cl) (c : Nat) (x : Cl) (w : World) (h : TabAt w ao T) (hT : T.length * 48 ≤ 140737488351232) (hx : T[c]? = some x) (hprev : ∀ k, k < c → faultD T k = 0) :
    Calls Tryd.prog 41 #[.slice ao T.length cap, .int .i64 (c : Int)] w fun e w' => e = .returned (.int .i64 (faultD T c)) ∧ Below w.heap.size w w' := by
  have hc := (List.getElem?_eq_some_iff.1 hx).1
  have HFL := hide (fieldsD_le (Nat.le_of_lt hc) hprev)
  obtain ⟨b, off, rfl, hcl⟩ := h c x hx
  have c0 := hcl.c0
  have c1 := hcl.c1
  have c2 := hcl.c2
  have HT := hide hT
  have H := hide h
  have HX := hide hx
  have i1 : ((c : Nat) : Int) < ((T.length : Nat) : Int) := by omega
  have HCL := hide hcl
  clear hcl h hT hx hprev
  by_cases h32 : 32 ≤ c
  · have j1 : ((c : Nat) : Int) ≥ 32 := by omega
    have HR : Hid (faultD T c = 4) := hide (by unfold faultD; rw [unhide HX]; simp only; rw [if_pos h32])
    go_enter Tryd.func41, Tryd.ntmps41
    go_wp2
    go_ret
    exact ⟨ret_int (unhide HR).symm, (Below.refl _ _).alloc (Nat.le_refl _) _⟩
  · have j1 : ¬ ((c : Nat) : Int) ≥ 32 := by omega
    have hns : x.nm.size ≤ maxLen := by have := (unhide HCL).name; unfold maxLen; omega
    have HNS := hide hns
    clear hns
    go_enter Tryd.func41, Tryd.ntmps41
    go_wp2_with fail
    obtain ⟨B, HB⟩ : ∃ B, Hid (w.heap.size = B) := ⟨_, hide rfl⟩
    obtain ⟨w1, HW1⟩ : ∃ w1, Hid (w.alloc (Obj.cells #[Value.string x.nm, Value.int IntKind.i64 x.par, Value.slice x.fo x.fs.length x.fc] 38) = w1) := ⟨_, hide rfl⟩
    have hB1 : Below w.heap.size w w1 := by rw [← unhide HW1]; exact (Below.refl _ _).alloc (Nat.le_refl _) _
    have hrow : w1.heap[B]? = some (.cells #[Value.string x.nm, Value.int IntKind.i64 x.par, Value.slice x.fo x.fs.length x.fc] 38) := by rw [← unhide HW1, ← unhide HB]; exact heap_alloc_new w _
    have e0 : w1.cell? ⟨B, 0, none⟩ = some (.string x.nm) := by rw [cell_of_row _ _ _ _ _ _ hrow]; rfl
    have e1 : w1.cell? ⟨B, 1, none⟩ = some (.int .i64 x.par) := by rw [cell_of_row _ _ _ _ _ _ hrow]; rfl
    have e2 : w1.cell? ⟨B, 2, none⟩ = some (.slice x.fo x.fs.length x.fc) := by rw [cell_of_row _ _ _ _ _ _ hrow]; rfl
    rw [unhide HW1, unhide HB]
    have hTb := (unhide H).below hB1
    have HTb := hide hTb
    have HB1 := hide hB1
    have hBl : B < w1.heap.size := World.block_lt_of_cell? w1 _ e0
    clear hrow HW1 hB1 hTb c0 c1 c2 HB
    refine (refName_any x.nm _ (unhide HNS)).mono ?_
    rintro e w2 ⟨rfl, rfl⟩
    by_cases hnm : nameB x.nm = true
    · rw [hnm]
      go_wp2_with fail
      refine (isWord_any x.nm _).mono ?_
      rintro e w3 ⟨rfl, rfl⟩
      by_cases hwd : isWordD x.nm = true
      · have HR := hide (faultD_6 (unhide HX) h32 (by rw [hwd]; simp))
        rw [hwd]
        go_wp2
        go_ret
        exact ⟨ret_int (unhide HR).symm, unhide HB1⟩
      · have hwd' : isWordD x.nm = false := by simpa using hwd
        have HN6 : Hid (¬ (!nameB x.nm || isWordD x.nm) = true) := hide (by rw [hnm, hwd']; simp)
        rw [hwd']
        clear hwd hwd' hnm
        go_wp2
        go_loopw [6] (fun i wr => ∃ k : Nat, k ≤ c ∧ i = .int .i64 (k : Int) ∧ Hid (twiceD T k x.nm = false) ∧ ∃ q, wr = w3.drewN q) (fun i _ => c - (intOf i).toNat)
        case atStart => exact ⟨0, by omega, rfl, hide rfl, 0, rfl⟩
        case round =>
          obtain ⟨k, hk, rfl, HK, q, rfl⟩ := hrel
          by_cases hlt : k < c
          · have j2 : ((k : Nat) : Int) < ((c : Nat) : Int) := by omega
            have j3 : ((k : Nat) : Int) < ((T.length : Nat) : Int) := by omega
            have hkT : k < T.length := by omega
            obtain ⟨b', off', eb, hkx⟩ := unhide HTb k _ (List.getElem?_eq_getElem hkT)
            injection eb with eb
            injection eb with eb1 eb2
            subst eb1 eb2
            have d0 := hkx.c0
            have HSN := hide (twiceD_snoc x.nm hkT)
            have HSF : Hid ((T[k].nm.toList == x.nm.toList) = true → twiceD T c x.nm = true) := hide (twiceD_found hlt hkT)
            clear hkx
            generalize T[k].nm = z at d0 HSN HSF
            by_cases hb : (z.toList == x.nm.toList) = true
            · have HR := hide (faultD_20 (unhide HX) h32 (unhide HN6) (unhide HSF hb))
              clear HSF HSN
              go_wp2
              go_quiet (fail)
              go_wp2
              go_ret
              exact ⟨ret_int (unhide HR).symm, belowD (belowD (unhide HB1) _) _⟩
            · have hb2 : (z.toList == x.nm.toList) = false := by simpa using hb
              have HK2 : Hid (twiceD T (k + 1) x.nm = false) := hide (by rw [unhide HSN, unhide HK, hb2]; rfl)
              clear HSF HSN hb
              go_wp2
              go_quiet (fail)
              go_wp2
              go_roundw
              case rel => exact ⟨k + 1, by omega, by go_num, HK2, _, rfl⟩
              case measure => simp [intOf]; omega
          · have ekc : k = c := by omega
            have HN20 : Hid (¬ twiceD T c x.nm = true) := hide (by rw [← ekc, unhide HK]; simp)
            clear ekc HK
            have j2 : ¬ ((k : Nat) : Int) < ((c : Nat) : Int) := by omega
            obtain ⟨w4, HW4⟩ : ∃ w4, Hid (w3.drewN q = w4) := ⟨_, hide rfl⟩
            have g0 : w4.cell? ⟨B, 0, none⟩ = some (.string x.nm) := by rw [← unhide HW4]; exact e0
            have g1 : w4.cell? ⟨B, 1, none⟩ = some (.int .i64 x.par) := by rw [← unhide HW4]; exact e1
            have g2 : w4.cell? ⟨B, 2, none⟩ = some (.slice x.fo x.fs.length x.fc) := by rw [← unhide HW4]; exact e2
            have HB4 : Hid (Below w.heap.size w w4) := hide (by rw [← unhide HW4]; exact belowD (unhide HB1) q)
            have HTb4 : Hid (TabAt w4 (some ⟨b, off, none⟩) T) := hide (by rw [← unhide HW4]; exact (unhide HTb).below (below_drew _ _))
            have hBl4 : B < w4.heap.size := World.block_lt_of_cell? w4 _ g0
            rw [unhide HW4]
            clear e0 e1 e2 HB1 HTb HW4 hBl
            by_cases hp1 : x.par < -1
            · have HR := hide (faultD_21 (unhide HX) h32 (unhide HN6) (unhide HN20) (.inl hp1))
              go_wp2
              go_ret
              exact ⟨ret_int (unhide HR).symm, unhide HB4⟩
            · by_cases hp2 : (c : Int) ≤ x.par
              · have hp3 : x.par ≥ (c : Int) := hp2
                have HR := hide (faultD_21 (unhide HX) h32 (unhide HN6) (unhide HN20) (.inr hp2))
                go_wp2
                go_ret
                exact ⟨ret_int (unhide HR).symm, unhide HB4⟩
              · have hp3 : ¬ x.par ≥ (c : Int) := hp2
                have HR := hide (faultD_scan (unhide HX) h32 (unhide HN6) (unhide HN20) (by omega))
                have HF32 := hide (unhide HFL x.par (by omega))
                clear HN6 HN20 HFL
                go_wp2_with fail
                refine (refFields_any _ cap T x.par _ (unhide HTb4) (unhide HT) (by have := unhide HF32; omega)).mono ?_
                rintro e w5 ⟨av, rfl, hA, hB5⟩
                have HOK := hide (fieldsD_ok (unhide H) x.par)
                generalize fieldsD T x.par = all at hA HR HF32 HOK
                obtain ⟨aa, ac, rfl, hAf, hAn, hAc⟩ := hA.at (unhide HOK)
                have k2 := (hB5.cell (p := ⟨B, 2, none⟩) hBl4).trans g2
                have HB5 : Hid (Below w.heap.size w w5) := hide ((unhide HB4).trans (hB5.mono (unhide HB4).size))
                have HAf := hide hAf
                have HTb5 := hide ((unhide HTb4).below hB5)
                have hBl5 : B < w5.heap.size := World.block_lt_of_cell? w5 _ k2
                have HFs : Hid (FsAt w5 x.fo x.fs ∧ (x.fo = none → x.fs = [] ∧ x.fc = 0)) := hide (by
                  obtain ⟨_, _, _, hz⟩ := unhide HTb5 c x (unhide HX)
                  exact ⟨hz.flds, hz.nil⟩)
                have HFb : Hid (x.fs.length ≤ x.fc ∧ x.fs.length * 24 ≤ 140737488351232) := hide ⟨(unhide HCL).cap, (unhide HCL).fit⟩
                have hfl : x.fs.length < 9223372036854775000 := by have := (unhide HFb).2; omega
                have hfc : x.fs.length ≤ x.fc := (unhide HFb).1
                have hal : all.length ≤ 32 := unhide HF32
                clear hA hAf hAn hAc hB5 g0 g1 g2 HB4 HTb4 hBl4
                go_wp2
                go_loopw [8] (fun i wr => ∃ k : Nat, k ≤ x.fs.length ∧ i = .int .i64 (k : Int) ∧ Hid (faultD T c = scanD T.length all (x.fs.take k) (x.fs.drop k)) ∧ Hid (Below w5.heap.size w5 wr)) (fun i _ => x.fs.length - (intOf i).toNat)
                case atStart => exact ⟨0, by omega, rfl, HR, hide (Below.refl _ _)⟩
                case round =>
                  clear HR
                  obtain ⟨k, hk, rfl, HR, HBr⟩ := hrel
                  have l2 := ((unhide HBr).cell (p := ⟨B, 2, none⟩) hBl5).trans k2
                  clear k2
                  by_cases hlt : k < x.fs.length
                  · have m1 : ((k : Nat) : Int) < ((x.fs.length : Nat) : Int) := by omega
                    have m2 : ((k : Nat) : Int) ≤ ((x.fc : Nat) : Int) := by omega
                    obtain ⟨fb, foff, efo, hfx⟩ := (unhide HFs).1 k _ (List.getElem?_eq_getElem hlt)
                    have HSS := hide (scanD_step T.length all x.fs k hlt)
                    have hfx' := hfx.below (unhide HBr)
                    have d0 := hfx'.c0
                    have d1 := hfx'.c1
                    have HFn : Hid (x.fs[k].nm.size ≤ maxLen) := hide (by have := hfx.name; unfold maxLen; omega)
                    have hty : x.fs[k].ty < 256 := hfx.ty
                    have HFt := hide ((unhide HFs).1.take k)
                    have HTl : Hid ((x.fs.take k).length = k) := hide (by rw [List.length_take]; omega)
                    rw [unhide HSS] at HR
                    generalize x.fs[k] = f at HR d0 d1 HFn hty
                    rw [efo] at l2 HFt
                    clear hfx hfx' HSS efo
                    go_wp2_with fail
                    obtain ⟨FB, HFB⟩ : ∃ FB, Hid (wr.heap.size = FB) := ⟨_, hide rfl⟩
                    obtain ⟨w6, HW6⟩ : ∃ w6, Hid (wr.alloc (Obj.cells #[Value.string f.nm, Value.int IntKind.u8 (f.ty : Int)] 41) = w6) := ⟨_, hide rfl⟩
                    have hB6 : Below wr.heap.size wr w6 := by rw [← unhide HW6]; exact (Below.refl _ _).alloc (Nat.le_refl _) _
                    have hrow : w6.heap[FB]? = some (.cells #[Value.string f.nm, Value.int IntKind.u8 (f.ty : Int)] 41) := by rw [← unhide HW6, ← unhide HFB]; exact heap_alloc_new wr _
                    have f0 : w6.cell? ⟨FB, 0, none⟩ = some (.string f.nm) := by rw [cell_of_row _ _ _ _ _ _ hrow]; rfl
                    have f1 : w6.cell? ⟨FB, 1, none⟩ = some (.int .u8 (f.ty : Int)) := by rw [cell_of_row _ _ _ _ _ _ hrow]; rfl
                    have l2' := (hB6.cell (p := ⟨B, 2, none⟩) (World.block_lt_of_cell? wr _ l2)).trans l2
                    have HB6 : Hid (Below w5.heap.size w5 w6) := hide ((unhide HBr).trans (hB6.mono (unhide HBr).size))
                    rw [unhide HW6, unhide HFB]
                    clear hrow HW6 hB6 HFB d0 d1 l2 HBr
                    refine (refName_any f.nm _ (unhide HFn)).mono ?_
                    rintro e w7 ⟨rfl, rfl⟩
                    by_cases hn7 : nameB f.nm = true
                    · rw [hn7, if_neg (by simp)] at HR
                      rw [hn7]
                      clear hn7
                      have HC0 : Hid (∀ q, Calls Tryd.prog 63 #[.slice aa all.length ac, .string f.nm] (w7.drewN q) fun e w' => e = .returned (.bool (hasD all f.nm)) ∧ w' = w7.drewN q) := hide (fun q => has_any aa ac all f.nm _ (((unhide HAf).below (unhide HB6)).below (below_drew _ _)) (by have := unhide HF32; omega))
                      have HD0 : Hid (∀ q, Calls Tryd.prog 63 #[.slice (some ⟨fb, foff, none⟩) k x.fc, .string f.nm] (w7.drewN q) fun e w' => e = .returned (.bool (hasD (x.fs.take k) f.nm)) ∧ w' = w7.drewN q) := hide (fun q => by
                        have := has_any (some ⟨fb, foff, none⟩) x.fc (x.fs.take k) f.nm (w7.drewN q) (((unhide HFt).below (unhide HB6)).below (below_drew _ _)) (by have := unhide HTl; have := (unhide HFb).2; omega)
                        rw [unhide HTl] at this
                        exact this)
                      generalize hasD all f.nm = ha at HR HC0
                      generalize hasD (x.fs.take k) f.nm = hb at HR HD0
                      cases ha with
                      | true =>
                        have HR2 : Hid (faultD T c = 20) := hide (by rw [unhide HR, if_pos (by simp)])
                        clear HR HD0
                        go_wp2
                        go_quiet ((go_at_call 63; exact Calls.quiet_of_same (unhide HC0 _)))
                        go_wp2
                        go_ret
                        exact ⟨ret_int (unhide HR2).symm, belowD ((unhide HB5).trans ((unhide HB6).mono (unhide HB5).size)) _⟩
                      | false =>
                        cases hb with
                        | true =>
                          have HR2 : Hid (faultD T c = 20) := hide (by rw [unhide HR, if_pos (by simp)])
                          clear HR
                          go_wp2
                          go_quiet (first | (go_at_call 63; with_reducible exact Calls.quiet_of_same (unhide HC0 _)) | (go_at_call 63; with_reducible exact Calls.quiet_of_same (unhide HD0 _)))
                          go_wp2
                          go_ret
                          exact ⟨ret_int (unhide HR2).symm, belowD ((unhide HB5).trans ((unhide HB6).mono (unhide HB5).size)) _⟩
                        | false =>
                          rw [if_neg (by simp)] at HR
                          go_wp2
                          go_quiet (first | (go_at_call 63; with_reducible exact Calls.quiet_of_same (unhide HC0 _)) | (go_at_call 63; with_reducible exact Calls.quiet_of_same (unhide HD0 _)))
                          go_wp2_with fail
                          refine (Stored_any _ cap T.length f.ty _ hty).mono ?_
                          rintro e w8 ⟨rfl, rfl⟩
                          by_cases hst : storedD T.length f.ty = true
                          · rw [hst, if_neg (by simp)] at HR
                            rw [hst]
                            clear hst HC0 HD0
                            go_wp2
                            go_roundw
                            case rel => exact ⟨k + 1, by omega, by go_num, HR, hide (belowD (unhide HB6) _)⟩
                            case measure => simp [intOf]; omega
                          · have hst' : storedD T.length f.ty = false := by simpa using hst
                            have HR2 : Hid (faultD T c = 22) := hide (by rw [unhide HR, if_pos hst'])
                            rw [hst']
                            clear hst hst' HR HC0 HD0
                            go_wp2
                            go_ret
                            exact ⟨ret_int (unhide HR2).symm, belowD ((unhide HB5).trans ((unhide HB6).mono (unhide HB5).size)) _⟩
                    · have hn8 : nameB f.nm = false := by simpa using hn7
                      have HR2 : Hid (faultD T c = 6) := hide (by rw [unhide HR, if_pos hn8])
                      rw [hn8]
                      clear hn7 hn8 HR
                      go_wp2
                      go_ret
                      exact ⟨ret_int (unhide HR2).symm, (unhide HB5).trans ((unhide HB6).mono (unhide HB5).size)⟩
                  · have m1 : ¬ ((k : Nat) : Int) < ((x.fs.length : Nat) : Int) := by omega
                    have HR2 : Hid (faultD T c = if 32 - (all.length : Int) < (x.fs.length : Int) then 4 else 0) := hide (by
                      rw [unhide HR, List.drop_eq_nil_of_le (by omega), List.take_of_length_le (by omega)]
                      rfl)
                    clear HR
                    have HBe := hide ((unhide HB5).trans ((unhide HBr).mono (unhide HB5).size))
                    by_cases hov : 32 - (all.length : Int) < (x.fs.length : Int)
                    · have hov' : (x.fs.length : Int) > 32 - (all.length : Int) := hov
                      rw [if_pos hov] at HR2
                      go_wp2
                      go_ret
                      exact ⟨ret_int (unhide HR2).symm, unhide HBe⟩
                    · have hov' : ¬ (x.fs.length : Int) > 32 - (all.length : Int) := hov
                      rw [if_neg hov] at HR2
                      go_wp2
                      go_ret
                      exact ⟨ret_int (unhide HR2).symm, unhide HBe⟩
    · have hnm' : nameB x.nm = false := by simpa using hnm
      have HR := hide (faultD_6 (unhide HX) h32 (by rw [hnm']; simp))
      rw [hnm']
      go_wp2
      go_ret
      exact ⟨ret_int (unhide HR).symm, unhide HB1⟩

def checkD (T : List Cl) : Nat → Nat → Nat × Int
  | 0, _ => (0, 0)
  | k + 1, c => if faultD T c = 0 then checkD T k (c + 1) else (c, faultD T c)
/-- May the table be? -/
def madeD (T : List Cl) : Bool := (List.range T.length).all fun c => decide (faultD T c = 0)
theorem madeD_yes {T : List Cl} (h : ∀ k, k < T.length → faultD T k = 0) : madeD T = true := by
  unfold madeD
  rw [List.all_eq_true]
  intro c hc
  exact decide_eq_true (h c (List.mem_range.1 hc))
theorem madeD_no {T : List Cl} {k : Nat} (hk : k < T.length) (h : faultD T k ≠ 0) : madeD T = false := by
  unfold madeD
  rw [List.all_eq_false]
  exact ⟨k, List.mem_range.2 hk, by simpa using h⟩
theorem madeD_all {T : List Cl} (h : madeD T = true) : ∀ k, k < T.length → faultD T k = 0 := by
  intro k hk
  unfold madeD at h
  rw [List.all_eq_true] at h
  exact of_decide_eq_true (h k (List.mem_range.2 hk))

/-- Where the first fault is. -/
structure IsFirst (T : List Cl) (n : Nat) (e : Int) : Prop where
  ahead : ∀ k, k < n → faultD T k = 0
  one : (n < T.length ∧ e ≠ 0 ∧ faultD T n = e)
theorem refCheck_any (ao : Option Addr) (cap : Nat) (T : List Cl) (w : World) (h : TabAt w ao T) (hT : T.length * 48 ≤ 140737488351232) :
    Calls Tryd.prog 14 #[.slice ao T.length cap] w fun e w' => (∃ (n : Nat) (er : Int), e = .returned (.tuple #[.int .i64 (n : Int), .int .i64 er]) ∧ ((n = 0 ∧ er = 0 ∧ madeD T = true) ∨ IsFirst T n er)) ∧ Below w.heap.size w w' := by
  have H := hide h
  have HT := hide hT
  have hT2 : T.length < 9223372036854775800 := by omega
  clear h hT
  go_enter Tryd.func14, Tryd.ntmps14
  go_wp2
  go_loopw [4] (fun i wr => ∃ k : Nat, k ≤ T.length ∧ i = .int .i64 (k : Int) ∧ Hid (∀ j, j < k → faultD T j = 0) ∧ Hid (Below w.heap.size w wr)) (fun i _ => T.length - (intOf i).toNat)
  case atStart => exact ⟨0, by omega, rfl, hide (fun j h => by omega), hide (Below.refl _ _)⟩
  case round =>
    obtain ⟨k, hk, rfl, HK, HB⟩ := hrel
    by_cases hlt : k < T.length
    · have i1 : ((k : Nat) : Int) < ((T.length : Nat) : Int) := by omega
      go_wp2_with fail
      refine (fault_any ao cap T k _ _ ((unhide H).below (unhide HB)) (unhide HT) (List.getElem?_eq_getElem hlt) (unhide HK)).mono ?_
      rintro e w2 ⟨rfl, hB2⟩
      have HB2 := hide ((unhide HB).trans (hB2.mono (unhide HB).size))
      obtain ⟨er, HE⟩ : ∃ er, Hid (faultD T k = er) := ⟨_, hide rfl⟩
      rw [unhide HE]
      clear hB2 HB
      by_cases h0 : er = 0
      · have h0' := bne_f h0
        have HK2 : Hid (∀ j, j < k + 1 → faultD T j = 0) := hide (fun j hj => by
          by_cases e : j = k
          · rw [e, unhide HE]; exact h0
          · exact unhide HK j (by omega))
        clear h0 HK HE
        go_wp2
        go_roundw
        case rel => exact ⟨k + 1, by omega, by go_num, HK2, HB2⟩
        case measure => simp [intOf]; omega
      · have h0' := bne_t h0
        have HF : Hid (IsFirst T k er) := hide ⟨unhide HK, hlt, h0, unhide HE⟩
        clear h0 HK HE
        go_wp2
        go_ret2
        exact ⟨⟨k, er, rfl, .inr (unhide HF)⟩, unhide HB2⟩
    · have i1 : ¬ ((k : Nat) : Int) < ((T.length : Nat) : Int) := by omega
      have HM : Hid (madeD T = true) := hide (madeD_yes (fun j hj => unhide HK j (by omega)))
      go_wp2
      go_ret2
      exact ⟨⟨0, 0, rfl, .inl ⟨rfl, rfl, unhide HM⟩⟩, unhide HB⟩
end Go.Proofs.YtbbfnampjbdnbaaDoor

/-
  What holds of the fields of a table that may be: a parent's are the beginning of its children's, and no name stands twice. No Go in it.
-/
namespace Go.Proofs.YtbbfnampjbdnbaaDoor
open Go.RowKit
set_option maxRecDepth 20000

theorem lineB_bel {T : List Cl} {b b' : Nat} {c : Int} (h : c < (b : Int)) (h' : c < (b' : Int)) : lineB T b c = lineB T b' c := by
  by_cases h0 : 0 ≤ c
  · obtain ⟨k, rfl⟩ : ∃ k : Nat, c = (k : Int) := ⟨c.toNat, by omega⟩
    rw [lineB_in (by omega), lineB_in (by omega)]
  · rw [lineB_out (by omega), lineB_out (by omega)]

theorem made_par {T : List Cl} (h : madeD T = true) : ∀ k, k < T.length → parD T k < (k : Int) := prev_par (Nat.le_refl _) (madeD_all h)
theorem lineB_step {T : List Cl} (h : madeD T = true) {c : Nat} (hc : c < T.length) : lineB T T.length (c : Int) = c :: lineB T T.length (parD T c) := by
  rw [lineB_in hc]
  congr 1
  have := made_par h c hc
  exact lineB_bel this (by omega)
theorem line_same {T : List Cl} (h : madeD T = true) : ∀ (n : Nat) (c : Int), c < (T.length : Int) → c.toNat ≤ n → lineD T c = lineB T T.length c := by
  intro n
  induction n with
  | zero =>
    intro c hc hn
    by_cases h0 : 0 ≤ c
    · obtain ⟨k, rfl⟩ : ∃ k : Nat, c = (k : Int) := ⟨c.toNat, by omega⟩
      have := made_par h k (by omega)
      rw [lineD_step (made_par h) (by omega) (by omega), lineB_step h (by omega)]
      congr 1
      unfold lineD
      rw [lineR_out _ (by omega), lineB_out (by omega)]
    · unfold lineD
      rw [lineR_out _ (by omega), lineB_out (by omega)]
  | succ n ih =>
    intro c hc hn
    by_cases h0 : 0 ≤ c
    · obtain ⟨k, rfl⟩ : ∃ k : Nat, c = (k : Int) := ⟨c.toNat, by omega⟩
      have := made_par h k (by omega)
      rw [lineD_step (made_par h) (by omega) (by omega), lineB_step h (by omega), ih _ (by omega) (by omega)]
    · unfold lineD
      rw [lineR_out _ (by omega), lineB_out (by omega)]
theorem fields_same {T : List Cl} (h : madeD T = true) {c : Int} (hc : c < (T.length : Int)) : fieldsD T c = fieldsB T c := by
  unfold fieldsD fieldsB
  rw [line_same h _ c hc (Nat.le_refl _)]
theorem fieldsB_le {T : List Cl} (h : madeD T = true) {c : Int} (hc : c < (T.length : Int)) : (fieldsB T c).length ≤ 32 := by
  rw [← fields_same h hc]
  exact fieldsD_le (Nat.le_refl _) (madeD_all h) c hc
theorem fieldsB_step {T : List Cl} (h : madeD T = true) {c : Nat} (hc : c < T.length) : fieldsB T (c : Int) = fieldsB T (parD T c) ++ fsD T c := by
  unfold fieldsB
  rw [lineB_step h hc, List.reverse_cons, List.flatMap_append]
  simp

/-- No name stands twice. -/
def Names (l : List Fl) : Prop := ∀ (i j : Nat) f g, l[i]? = some f → l[j]? = some g → i < j → (f.nm.toList == g.nm.toList) = false
theorem Names.snoc {l : List Fl} {f : Fl} (h : Names l) (hf : hasD l f.nm = false) : Names (l ++ [f]) := by
  intro i j a b ha hb hij
  have hj := (List.getElem?_eq_some_iff.1 hb).1
  simp at hj
  rw [List.getElem?_append_left (by omega)] at ha
  by_cases e : j < l.length
  · rw [List.getElem?_append_left e] at hb
    exact h i j a b ha hb hij
  · rw [List.getElem?_append_right (by omega)] at hb
    have e2 : j - l.length = 0 := by omega
    rw [e2] at hb
    simp at hb
    subst hb
    unfold hasD at hf
    rw [List.any_eq_false] at hf
    simpa using hf a (List.mem_of_getElem? ha)
theorem hasD_append (l m : List Fl) (s : ByteArray) : hasD (l ++ m) s = (hasD l s || hasD m s) := by unfold hasD; rw [List.any_append]
theorem scan_names (n : Nat) (all : List Fl) : ∀ (rest pre : List Fl), scanD n all pre rest = 0 → Names (all ++ pre) → Names (all ++ pre ++ rest)
  | [], pre, _, h => by rw [List.append_nil]; exact h
  | f :: rest, pre, hs, h => by
    unfold scanD at hs
    by_cases e1 : nameB f.nm = false
    · rw [if_pos e1] at hs; omega
    · rw [if_neg e1] at hs
      by_cases e2 : (hasD all f.nm || hasD pre f.nm) = true
      · rw [if_pos e2] at hs; omega
      · rw [if_neg e2] at hs
        by_cases e3 : storedD n f.ty = false
        · rw [if_pos e3] at hs; omega
        · rw [if_neg e3] at hs
          have := scan_names n all rest (pre ++ [f]) hs (by rw [← List.append_assoc]; exact h.snoc (by rw [hasD_append]; simpa using e2))
          simpa using this
theorem names_nil : Names [] := fun i j f g h => by simp at h
theorem made_names {T : List Cl} (h : madeD T = true) : ∀ (n : Nat) (c : Int), c < (T.length : Int) → c.toNat ≤ n → Names (fieldsB T c) := by
  intro n
  have neg : ∀ c : Int, c < 0 → Names (fieldsB T c) := fun c hc => by
    unfold fieldsB
    rw [lineB_out (by omega)]
    exact names_nil
  have one : ∀ k : Nat, k < T.length → Names (fieldsB T (parD T k)) → Names (fieldsB T (k : Int)) := fun k hk hn => by
    have hx := List.getElem?_eq_getElem hk
    have hg := faultD_zero hx (madeD_all h k hk)
    rw [fieldsB_step h hk, fsD_at hx]
    have hs := hg.scan
    rw [fields_same h (by have := hg.hi; omega), ← parD_at hx] at hs
    have := scan_names _ _ _ _ hs (by rw [List.append_nil]; exact hn)
    rw [List.append_nil] at this
    exact this
  induction n with
  | zero =>
    intro c hc hn
    by_cases h0 : 0 ≤ c
    · obtain ⟨k, rfl⟩ : ∃ k : Nat, c = (k : Int) := ⟨c.toNat, by omega⟩
      have := made_par h k (by omega)
      exact one k (by omega) (neg _ (by omega))
    · exact neg c (by omega)
  | succ n ih =>
    intro c hc hn
    by_cases h0 : 0 ≤ c
    · obtain ⟨k, rfl⟩ : ∃ k : Nat, c = (k : Int) := ⟨c.toNat, by omega⟩
      have := made_par h k (by omega)
      exact one k (by omega) (ih _ (by omega) (by omega))
    · exact neg c (by omega)
theorem findD_at : ∀ (fs : List Fl) (i k : Nat) (x : Fl), fs[i]? = some x → (∀ j, j < i → ∀ g, fs[j]? = some g → (g.nm.toList == x.nm.toList) = false) → findD fs x.nm k = some (k + i, x.ty)
  | [], i, k, x, h, _ => by simp at h
  | f :: fs, 0, k, x, h, _ => by
    simp at h
    subst h
    unfold findD
    rw [if_pos (by simp)]
    rfl
  | f :: fs, i + 1, k, x, h, hn => by
    unfold findD
    have h0 := hn 0 (by omega) f rfl
    rw [if_neg (by rw [h0]; simp)]
    have := findD_at fs i (k + 1) x (by simpa using h) (fun j hj g hg => hn (j + 1) (by omega) g (by simpa using hg))
    rw [this]
    congr 2
    omega
theorem fields_prefix {T : List Cl} {p c : Nat} (h : p ∈ lineB T T.length (c : Int)) : ∃ rest, fieldsB T (c : Int) = fieldsB T (p : Int) ++ rest := by
  have hp : p < T.length := lineB_lt T _ _ _ (Nat.le_refl _) p h
  obtain ⟨pre, hpre⟩ := lineB_tail T _ _ _ (Nat.le_refl _) p h
  rw [← lineB_in hp] at hpre
  refine ⟨pre.reverse.flatMap (fsD T), ?_⟩
  unfold fieldsB
  rw [← hpre, List.reverse_append, List.flatMap_append]

end Go.Proofs.YtbbfnampjbdnbaaDoor
