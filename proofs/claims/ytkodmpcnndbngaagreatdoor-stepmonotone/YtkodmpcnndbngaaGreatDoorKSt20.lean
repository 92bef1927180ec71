/-
  provisoref07.wanted: as the plain function says; the document's tests of what is taken are the program's: plain.
-/
import Derived.Test.YtkodmpcnndbngaaGreatDoorKSt19
namespace Go.Proofs.YtkodmpcnndbngaaGreatDoor
open Go.RowKit
set_option maxRecDepth 20000

/-- Whether a type is as the document's Takes wants it. -/
def wantD (T : List Cl) (t want : Nat) : Bool := if want = 255 then true else if want = 254 then decide (t ≠ 0) else if want = 253 then isRefD t else subD T t want

set_option maxHeartbeats 1000000 in
theorem wanted_any (ao : Option Addr) (cap : Nat) (T : List Cl) (t want : Nat) (w : World) (hT : TabAt w ao T) (hz : T.length * 48 ≤ 140737488351232) (hm : madeD T = true) (ht : t < 256) (hw : want < 256) :
    Calls Tryz.prog 43 #[.slice ao T.length cap, .int .u8 (t : Int), .int .u8 (want : Int)] w fun e w' => e = .returned (.bool (wantD T t want)) ∧ Below w.heap.size w w' := by
  have HB := hide (Below.refl w.heap.size w)
  by_cases h1 : want = 255
  · have b1 : (((want : Nat) : Int) == 255) = true := beq_t (by omega)
    have HE : Hid (wantD T t want = true) := hide (by unfold wantD; rw [if_pos h1])
    clear h1
    go_enter Tryz.func43, Tryz.ntmps43
    go_wp2
    go_ret
    exact ⟨ret_bool (unhide HE).symm, unhide HB⟩
  have b1 : (((want : Nat) : Int) == 255) = false := beq_f (by omega)
  by_cases h2 : want = 254
  · have b2 : (((want : Nat) : Int) == 254) = true := beq_t (by omega)
    have HE : Hid (wantD T t want = (((t : Nat) : Int) != 0)) := hide (by
      unfold wantD
      rw [if_neg h1, if_pos h2]
      by_cases h : t = 0 <;> simp [h])
    clear h1 h2
    go_enter Tryz.func43, Tryz.ntmps43
    go_wp2
    go_ret
    exact ⟨ret_bool (unhide HE).symm, unhide HB⟩
  have b2 : (((want : Nat) : Int) == 254) = false := beq_f (by omega)
  by_cases h3 : want = 253
  · have b3 : (((want : Nat) : Int) == 253) = true := beq_t (by omega)
    have HE : Hid (wantD T t want = isRefD t) := hide (by unfold wantD; rw [if_neg h1, if_neg h2, if_pos h3])
    have HI := hide (refIsRef_any t w)
    clear h1 h2 h3
    go_enter Tryz.func43, Tryz.ntmps43
    go_wp2_with fail
    refine (unhide HI).mono ?_
    rintro e W ⟨rfl, hW⟩
    rw [hW]
    clear hW W
    go_wp2
    go_ret
    exact ⟨ret_bool (unhide HE).symm, unhide HB⟩
  have b3 : (((want : Nat) : Int) == 253) = false := beq_f (by omega)
  have HE : Hid (wantD T t want = subD T t want) := hide (by unfold wantD; rw [if_neg h1, if_neg h2, if_neg h3])
  have HS := hide (refSub_any ao cap T t want w hT hz hm ht hw)
  clear h1 h2 h3 hT hz hm
  go_enter Tryz.func43, Tryz.ntmps43
  go_wp2_with fail
  refine (unhide HS).mono ?_
  rintro e W ⟨rfl, hB2⟩
  have HB2 := hide hB2
  clear hB2
  go_wp2
  go_ret
  exact ⟨ret_bool (unhide HE).symm, unhide HB2⟩

/-- Each entry is as the document's Takes wants it. -/
def allR (T : List Cl) (tk ws : List Nat) : Bool := (tk.zip ws).all fun x => wantD T x.1 x.2
theorem want_plain {T : List Cl} {t want : Nat} (h : want < 253) : wantD T t want = subD T t want := by
  unfold wantD
  rw [if_neg (by omega), if_neg (by omega), if_neg (by omega)]
theorem allR_plain {T : List Cl} : ∀ {tk ws : List Nat}, (∀ x ∈ ws, x < 253) → allR T tk ws = allO T tk ws
  | [], ws, _ => by simp [allR, allO]
  | t :: tk, [], _ => by simp [allR, allO]
  | t :: tk, u :: ws, h => by
    have ih : allR T tk ws = allO T tk ws := allR_plain (fun x hx => h x (List.mem_cons_of_mem _ hx))
    unfold allR allO at ih ⊢
    rw [List.zip_cons_cons, List.all_cons, List.all_cons, ih, want_plain (h u List.mem_cons_self)]
theorem sub_top {T : List Cl} {t : Nat} (h : validD T.length t = true) : subD T t 0 = true := subD_iff.2 (Le.top (validD_iff.1 h))
theorem sub_any {T : List Cl} {t : Nat} (h : validD T.length t = true) : subD T t 5 = isRefD t := by
  unfold subD
  rw [h, show validD T.length 5 = true from validD_iff.2 (Or.inl (by omega)), if_neg (by decide)]
  by_cases h5 : t = 5
  · rw [if_pos (Or.inl h5), h5]; rfl
  rw [if_neg (by omega)]
  by_cases h3 : t = 3
  · rw [if_pos h3, h3]; rfl
  rw [if_neg h3, if_pos rfl]
/-- What the document wants beside. -/
def alR (s : Sp) (tk : List Nat) (op : Nat) : Bool := if op = 5 then true else alO s tk op
theorem list_one {α : Type} {l : List α} (h : l.length = 1) : ∃ u, l = [u] := by
  match l, h with
  | [u], _ => exact ⟨u, rfl⟩
theorem list_two2 {α : Type} {l : List α} (h : l.length = 2) : ∃ u v, l = [u, v] := by
  match l, h with
  | [u, v], _ => exact ⟨u, v, rfl⟩
def SameOK (s : Sp) (tk : List Nat) (op : Nat) : Prop := (allR s.T tk (tkR s op) && alR s tk op) = (allO s.T tk (tkO s op) && alO s tk op)
theorem ok_plain {s : Sp} {tk : List Nat} {op : Nat} (h5 : op ≠ 5) (e : tkR s op = tkO s op) (hb : ∀ x ∈ tkO s op, x < 253) : SameOK s tk op := by
  unfold SameOK alR
  rw [if_neg h5, e, allR_plain hb]
theorem ok_anyone {s : Sp} {tk : List Nat} {op : Nat} (h5 : op ≠ 5) (e1 : tkR s op = [255]) (e2 : tkO s op = [0]) (hl : tk.length = (tkO s op).length) (hv : ∀ t ∈ tk, validD s.T.length t = true) : SameOK s tk op := by
  rw [e2] at hl
  obtain ⟨u, rfl⟩ := list_one hl
  unfold SameOK alR allR allO
  rw [if_neg h5, e1, e2]
  have := sub_top (hv u (by simp))
  simp [wantD, this]
theorem ok_anytwo {s : Sp} {tk : List Nat} {op : Nat} (h5 : op ≠ 5) (e1 : tkR s op = [255, 255]) (e2 : tkO s op = [0, 0]) (hl : tk.length = (tkO s op).length) (hv : ∀ t ∈ tk, validD s.T.length t = true) : SameOK s tk op := by
  rw [e2] at hl
  obtain ⟨u, v, rfl⟩ := list_two2 hl
  unfold SameOK alR allR allO
  rw [if_neg h5, e1, e2]
  have h1 := sub_top (hv u (by simp))
  have h2 := sub_top (hv v (by simp))
  simp [wantD, h1, h2]
theorem ok_refone {s : Sp} {tk : List Nat} {op : Nat} (h5 : op ≠ 5) (e1 : tkR s op = [253]) (e2 : tkO s op = [5]) (hl : tk.length = (tkO s op).length) (hv : ∀ t ∈ tk, validD s.T.length t = true) : SameOK s tk op := by
  rw [e2] at hl
  obtain ⟨u, rfl⟩ := list_one hl
  unfold SameOK alR allR allO
  rw [if_neg h5, e1, e2]
  have := sub_any (hv u (by simp))
  simp [wantD, this]
theorem ok_reftwo {s : Sp} {tk : List Nat} {op : Nat} (h5 : op ≠ 5) (e1 : tkR s op = [253, 253]) (e2 : tkO s op = [5, 5]) (hl : tk.length = (tkO s op).length) (hv : ∀ t ∈ tk, validD s.T.length t = true) : SameOK s tk op := by
  rw [e2] at hl
  obtain ⟨u, v, rfl⟩ := list_two2 hl
  unfold SameOK alR allR allO
  rw [if_neg h5, e1, e2]
  have h1 := sub_any (hv u (by simp))
  have h2 := sub_any (hv v (by simp))
  simp [wantD, h1, h2]
theorem ok_store {s : Sp} {tk : List Nat} (hl : tk.length = (tkO s 5).length) (hv : ∀ t ∈ tk, validD s.T.length t = true) : SameOK s tk 5 := by
  obtain ⟨u, rfl⟩ := list_one (show tk.length = 1 from hl)
  have := sub_top (hv u (by simp))
  unfold SameOK alR allR allO
  show (([u].zip [254]).all (fun x => wantD s.T x.1 x.2) && true) = (([u].zip [0]).all (fun x => subD s.T x.1 x.2) && decide ([u].getD 0 0 ≠ 0))
  simp [wantD, this]
theorem ok_same (s : Sp) (hc : Can s.T s.L s.fn) {tk : List Nat} (hv : ∀ t ∈ tk, validD s.T.length t = true) : ∀ op, op < 34 → unkO s op = 0 → tk.length = (tkO s op).length → SameOK s tk op := by
  intro op ho hu hl
  have hb : ∀ x ∈ tkO s op, x < 253 := fun x hx => by
    have h1 := tk_valid s hc op ho hu x hx
    have h2 := made_few hc.made
    rcases validD_iff.1 h1 with h | h <;> omega
  revert hu hl hb
  refine cases34 (p := fun op => unkO s op = 0 → tk.length = (tkO s op).length → (∀ x ∈ tkO s op, x < 253) → SameOK s tk op) ?_ ?_ ?_ ?_ ?_ ?_ ?_ ?_ ?_ ?_ ?_ ?_ ?_ ?_ ?_ ?_ ?_ ?_ ?_ ?_ ?_ ?_ ?_ ?_ ?_ ?_ ?_ ?_ ?_ ?_ ?_ ?_ ?_ ?_ op ho
  all_goals intro hu hl hb
  all_goals first
    | exact ok_plain (by decide) rfl hb
    | exact ok_anyone (by decide) rfl rfl hl hv
    | exact ok_anytwo (by decide) rfl rfl hl hv
    | exact ok_refone (by decide) rfl rfl hl hv
    | exact ok_reftwo (by decide) rfl rfl hl hv
    | exact ok_store hl hv
/-- What the document gives, where that hangs on what was taken. -/
theorem gv_same (s : Sp) (hm : madeD s.T = true) (tk : List Nat) : ∀ op, op < 34 → unkO s op = 0 → op ≠ 4 → op ≠ 7 → op ≠ 8 → gvR s op = gvO s tk op := by
  intro op ho hu
  revert hu
  refine cases34 (p := fun op => unkO s op = 0 → op ≠ 4 → op ≠ 7 → op ≠ 8 → gvR s op = gvO s tk op) ?_ ?_ ?_ ?_ ?_ ?_ ?_ ?_ ?_ ?_ ?_ ?_ ?_ ?_ ?_ ?_ ?_ ?_ ?_ ?_ ?_ ?_ ?_ ?_ ?_ ?_ ?_ ?_ ?_ ?_ ?_ ?_ ?_ ?_ op ho
  all_goals intro hu h4 h7 h8
  all_goals first
    | rfl
    | exact absurd rfl h4
    | exact absurd rfl h7
    | exact absurd rfl h8
    | exact rtD_pos (stored_pos (fld_stored hm (unk_fld (s := s) (op := 24) (Or.inl rfl) hu))).1
end Go.Proofs.YtkodmpcnndbngaaGreatDoor
