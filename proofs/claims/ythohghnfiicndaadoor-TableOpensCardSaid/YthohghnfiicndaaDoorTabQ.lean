/- table: Scan's question; what is scanned, pure. -/
import Derived.Test.YthohghnfiicndaaDoorTabO
import Derived.Laws.Cover1
namespace Go.Proofs.YthohghnfiicndaaDoor
open Go.RowKit Go.Maps Go.WideMaps
set_option maxRecDepth 100000

theorem scan_app (L M : List Ce) (a b : List UInt8) : scanC (L ++ M) a b = scanC L a b ++ scanC M a b := List.filter_append ..
theorem scan_low {L : List Ce} {a b : List UInt8} (h : ∀ c ∈ L, Op.bytesLess c.key a = true) : scanC L a b = [] := by
  unfold scanC
  rw [List.filter_eq_nil_iff]
  intro c hc
  rw [h c hc]; simp
theorem scan_high {L : List Ce} {a b : List UInt8} (hb : b ≠ []) (h : ∀ c ∈ L, Op.bytesLess c.key b = false) : scanC L a b = [] := by
  unfold scanC
  rw [List.filter_eq_nil_iff]
  intro c hc
  rw [h c hc]
  have : (b == []) = false := beq_eq_false_iff_ne.2 hb
  rw [this]; simp
theorem key_sorted {A B : List Ce} {c : Ce} {b : List UInt8} (hs : sortedC (A ++ c :: B)) (hc : Op.bytesLess c.key b = false) : ∀ x ∈ c :: B, Op.bytesLess x.key b = false := by
  have h1 := (List.pairwise_append.1 hs).2.1
  intro x hx
  rcases List.mem_cons.1 hx with rfl | hx
  · exact hc
  · have h2 := (List.pairwise_cons.1 h1).1 x hx
    cases hq : Op.bytesLess x.key b
    · rfl
    · rw [key_le h2 hq] at hc; cases hc
theorem scan_one (x : Ce) (a b : List UInt8) : scanC [x] a b = if (!Op.bytesLess x.key a && (b == [] || Op.bytesLess x.key b)) = true then [x] else [] := by
  unfold scanC
  rw [List.filter_cons, List.filter_nil]
section
variable {L : List Ce} {PS : List (List Ce)}
theorem Pcs.klow (h : Pcs L PS) {a : List UInt8} {m : Nat} (hm : m ≤ PS.length) (hlo : ∀ t, t < m → Op.bytesLess (lastC (PS.getD t [])).key a = true) : ∀ c ∈ (PS.take m).flatten, Op.bytesLess c.key a = true := by
  intro c hc
  obtain ⟨p, hp, hc⟩ := List.mem_flatten.1 hc
  obtain ⟨t, ht, rfl⟩ := List.getElem_of_mem hp
  rw [List.length_take] at ht
  have hl := hlo t (by omega)
  rw [getD_at _ _ (by omega)] at hl
  rw [List.getElem_take] at hc
  rcases le_last (h.each _ (List.getElem_mem _)) hc with e | e
  · rw [e]; exact hl
  · exact key_le e hl
theorem Pcs.kmono (h : Pcs L PS) {k : List UInt8} (a b : Nat) (hab : a ≤ b) (hb : b < PS.length) (ha : (!Op.bytesLess (lastC (PS.getD a [])).key k) = true) : (!Op.bytesLess (lastC (PS.getD b [])).key k) = true := by
  rw [getD_at _ _ (by omega)] at ha
  rw [getD_at _ _ hb]
  by_cases e : a = b
  · subst e; exact ha
  · have := h.last_lt (a := a) (b := b) (by omega) hb
    cases hl : Op.bytesLess (lastC PS[b]).key k
    · rfl
    · rw [key_le this hl] at ha; cases ha
/-- What has come behind m pieces, j more and i cells of the next. -/
def sofar (PS : List (List Ce)) (m j i : Nat) : List Ce := ((PS.drop m).take j).flatten ++ (PS.getD (m + j) []).take i
theorem sofar_zero (PS : List (List Ce)) (m : Nat) : sofar PS m 0 0 = [] := by simp [sofar]
theorem sofar_cell {m j i : Nat} (hi : i < (PS.getD (m + j) []).length) : sofar PS m j (i + 1) = sofar PS m j i ++ [(PS.getD (m + j) [])[i]] := by
  unfold sofar
  rw [List.take_succ_eq_append_getElem hi, List.append_assoc]
theorem sofar_next {m j : Nat} (hj : m + j < PS.length) : sofar PS m (j + 1) 0 = sofar PS m j (PS.getD (m + j) []).length := by
  unfold sofar
  rw [List.take_zero, List.append_nil, List.take_length, List.take_succ_eq_append_getElem (by rw [List.length_drop]; omega), List.flatten_append, List.flatten_singleton, List.getElem_drop, getD_at _ _ hj]
theorem Pcs.rest (h : Pcs L PS) {m j i : Nat} (hj : m + j < PS.length) (hi : i < (PS.getD (m + j) []).length) : ∃ B, L = ((PS.take m).flatten ++ sofar PS m j i) ++ (PS.getD (m + j) [])[i] :: B := by
  refine ⟨(PS.getD (m + j) []).drop (i + 1) ++ (PS.drop (m + j + 1)).flatten, ?_⟩
  have e1 : PS = PS.take m ++ ((PS.drop m).take j ++ PS.drop (m + j)) := by rw [← List.drop_drop, List.take_append_drop, List.take_append_drop]
  have e2 : PS.drop (m + j) = PS[m + j] :: PS.drop (m + j + 1) := List.drop_eq_getElem_cons hj
  have e3 : PS[m + j] = PS.getD (m + j) [] := (getD_at _ _ hj).symm
  have e4 : PS.getD (m + j) [] = (PS.getD (m + j) []).take i ++ ((PS.getD (m + j) [])[i] :: (PS.getD (m + j) []).drop (i + 1)) := by rw [← List.drop_eq_getElem_cons hi, List.take_append_drop]
  have e5 : L = (PS.take m).flatten ++ (((PS.drop m).take j).flatten ++ (PS.getD (m + j) [] ++ (PS.drop (m + j + 1)).flatten)) := by
    rw [← h.flat]
    conv => lhs; rw [e1]
    rw [List.flatten_append, List.flatten_append, e2, List.flatten_cons, e3]
  refine e5.trans ?_
  unfold sofar
  have e6 : PS.getD (m + j) [] ++ (PS.drop (m + j + 1)).flatten = ((PS.getD (m + j) []).take i ++ ((PS.getD (m + j) [])[i] :: (PS.getD (m + j) []).drop (i + 1))) ++ (PS.drop (m + j + 1)).flatten := congrArg (fun z => z ++ (PS.drop (m + j + 1)).flatten) e4
  rw [e6]
  simp only [List.append_assoc, List.cons_append]
theorem Pcs.all_ (h : Pcs L PS) {m j : Nat} (hm : m ≤ PS.length) (hj : m + j = PS.length) : L = (PS.take m).flatten ++ sofar PS m j 0 := by
  unfold sofar
  rw [List.take_zero, List.append_nil, List.take_of_length_le (l := PS.drop m) (by rw [List.length_drop]; omega), ← List.flatten_append, List.take_append_drop, h.flat]
/-- Behind the first cell that is not ahead of the end nothing is scanned. -/
theorem scan_stop (h : Pcs L PS) (hs : sortedC L) {a b : List UInt8} {m j i : Nat} (hj : m + j < PS.length) (hi : i < (PS.getD (m + j) []).length) (hlo : ∀ c ∈ (PS.take m).flatten, Op.bytesLess c.key a = true) (hb : b ≠ [])
    (hc : Op.bytesLess ((PS.getD (m + j) [])[i]).key b = false) : scanC L a b = scanC (sofar PS m j i) a b := by
  obtain ⟨B, e⟩ := h.rest hj hi
  have hs2 := hs
  rw [e] at hs2
  have := key_sorted hs2 hc
  conv => lhs; rw [e, scan_app, scan_app, scan_low hlo, scan_high hb this]
  simp
theorem scan_end (h : Pcs L PS) {a b : List UInt8} {m j : Nat} (hm : m ≤ PS.length) (hj : m + j = PS.length) (hlo : ∀ c ∈ (PS.take m).flatten, Op.bytesLess c.key a = true) : scanC L a b = scanC (sofar PS m j 0) a b := by
  conv => lhs; rw [h.all_ hm hj, scan_app, scan_low hlo]
  simp
end

set_option maxHeartbeats 8000000 in
theorem sclo_any {w : World} {g bm : Nat} {A : Addr} {c : Nat} {vf : Value} {G : List Ce → Value} {L : List Ce} {PS : List (List Ce)} (H : ∀ wx, Ext w wx → TP wx g bm A c vf G L PS) {bt bf : Nat} {a : List UInt8} (hbt : Blk w bt 31 #[.pointer (some ⟨g, 0, none⟩)]) (hbf : Blk w bf 9 #[sv a]) {i : Nat} (hi : i < PS.length) (hP : PS.length ≤ 1000000) :
    Calls Tryd.prog 55 #[.int .i64 (i : Nat), .pointer (some ⟨bt, 0, none⟩), .pointer (some ⟨bf, 0, none⟩)] w fun e w' => e = .returned (.bool (!Op.bytesLess (lastC (PS.getD i [])).key a)) ∧ Ext w w' := by
  have hg : PS.getD i [] = PS[i] := getD_at _ _ hi
  rw [hg, show (lastC PS[i]).key = (endE PS[i]).key from rfl]
  have H0 := H _ ((Mod.refl (fun _ => False) w).drew)
  have q0 : w.drew.cell? ⟨bt, 0, none⟩ = some (.pointer (some ⟨g, 0, none⟩)) ∧ w.drew.cell? ⟨g, 0, none⟩ = some (.slice (some A) PS.length c) ∧ w.drew.cell? (A.add (i * 2)) = some (sv (endE PS[i]).key) ∧ w.drew.cell? ⟨bf, 0, none⟩ = some (sv a) :=
    ⟨hbt.cell 0, H0.blk.cell 0, (H0.at_ hi).1, hbf.cell 0⟩
  have hi0 : (0 : Int) ≤ (i : Int) := by omega
  have hi1 : (i : Int) < (PS.length : Int) := by omega
  clear hg H H0 hbt hbf
  generalize (endE PS[i]).key = ek at *
  go_enter Tryd.func55, Tryd.ntmps55
  go_wp2_with fail
  go_region_held3 (fun wx => wx.cell? ⟨bt, 0, none⟩ = some (.pointer (some ⟨g, 0, none⟩)) ∧ wx.cell? ⟨g, 0, none⟩ = some (.slice (some A) PS.length c) ∧ wx.cell? (A.add (i * 2)) = some (sv ek) ∧ wx.cell? ⟨bf, 0, none⟩ = some (sv a)) (exact q0) (fail)
  all_goals go_wp2_with fail
  all_goals go_ret
  all_goals exact ⟨rfl, (Mod.refl _ w).drew⟩
end Go.Proofs.YthohghnfiicndaaDoor
