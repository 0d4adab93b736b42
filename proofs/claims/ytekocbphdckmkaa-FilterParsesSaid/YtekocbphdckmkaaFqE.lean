/- filter: the program's Print; how long a text is. -/
import Derived.Test.YtekocbphdckmkaaFqD
namespace Go.Proofs.Ytekocbphdckmkaa
open Go.RowKit
set_option maxRecDepth 100000

theorem join_len : ∀ (L : List (List UInt8)), (∀ x ∈ L, x.length ≤ 256) → (joinB L).length ≤ 769 * L.length
  | [], _ => by simp [joinB]
  | x :: r, h => by
    have hx := h x List.mem_cons_self
    have h2 := toldB_len x
    have hr : ∀ (r : List (List UInt8)), (∀ y ∈ r, y.length ≤ 256) → (r.flatMap (fun y => 42 :: toldB y)).length ≤ 769 * r.length := by
      intro r
      induction r with
      | nil => intro _; simp
      | cons y r ih =>
        intro h
        have h1 := ih (fun z hz => h z (List.mem_cons_of_mem _ hz))
        have h2 := h y List.mem_cons_self
        have h3 := toldB_len y
        simp only [List.flatMap_cons, List.length_append, List.length_cons]
        omega
    have h3 := hr r (fun y hy => h y (List.mem_cons_of_mem _ hy))
    simp only [joinB, List.length_append, List.length_cons]
    omega
/-- What a filter that may be is. -/
inductive OneC (n : Nat) (F : Fi) (d : Nat) : Prop
  | kids (hk : F.kind = 0 ∨ F.kind = 1 ∨ F.kind = 2) (ht : F.typ = []) (hv : F.val = []) (hs : F.subs = []) (hl : 1 ≤ F.kids.length) (h2 : ¬ (F.kind = 2 ∧ 1 < F.kids.length)) (ha : ∀ x ∈ F.kids, oneN n x (d + 1) = true)
  | val (hk : F.kind = 3 ∨ F.kind = 5 ∨ F.kind = 6) (ht : isTyp F.typ) (hv : F.val.length ≤ 256) (hs : F.subs = []) (hl : F.kids = [])
  | sub (hk : F.kind = 4) (ht : isTyp F.typ) (hv : F.val = []) (hs : isSubs F.subs) (hl : F.kids = [])
  | pre (hk : F.kind = 7) (ht : isTyp F.typ) (hv : F.val = []) (hs : F.subs = []) (hl : F.kids = [])
theorem one_cases {n : Nat} {F : Fi} {d : Nat} (h : oneN (n + 1) F d = true) : d ≤ 16 ∧ OneC n F d := by
  rw [oneN] at h
  by_cases h16 : 16 < d
  · rw [if_pos h16] at h; cases h
  rw [if_neg h16] at h
  refine ⟨by omega, ?_⟩
  by_cases h1 : F.kind = 0 ∨ F.kind = 1 ∨ F.kind = 2
  · rw [if_pos h1, Bool.and_eq_true_iff] at h
    obtain ⟨h2, h3⟩ := h
    obtain ⟨a, b, c, e, f⟩ := of_decide_eq_true h2
    exact .kids h1 a b c e f (fun x hx => List.all_eq_true.1 h3 x hx)
  rw [if_neg h1] at h
  by_cases h2 : F.kind = 3 ∨ F.kind = 5 ∨ F.kind = 6
  · rw [if_pos h2] at h
    obtain ⟨a, b, c, e⟩ := of_decide_eq_true h
    exact .val h2 a b c (List.eq_nil_of_length_eq_zero e)
  rw [if_neg h2] at h
  by_cases h3 : F.kind = 4
  · rw [if_pos h3] at h
    obtain ⟨a, b, c, e⟩ := of_decide_eq_true h
    exact .sub h3 a b c (List.eq_nil_of_length_eq_zero e)
  rw [if_neg h3] at h
  by_cases h4 : F.kind = 7
  · rw [if_pos h4] at h
    obtain ⟨a, b, c, e⟩ := of_decide_eq_true h
    exact .pre h4 a b c (List.eq_nil_of_length_eq_zero e)
  · rw [if_neg h4] at h; cases h
theorem flat_le (n : Nat) : ∀ (K : List Fi), (∀ x ∈ K, (textN n x).length ≤ 13000 * nodesN n x) → (K.flatMap (textN n)).length ≤ 13000 * (K.map (nodesN n)).sum
  | [], _ => by simp
  | x :: K, h => by
    have h1 := flat_le n K (fun y hy => h y (List.mem_cons_of_mem _ hy))
    have h2 := h x List.mem_cons_self
    simp only [List.flatMap_cons, List.length_append, List.map_cons, List.sum_cons]
    omega
theorem text_valid : ∀ {n : Nat} {F : Fi} {d : Nat}, oneN n F d = true → (textN n F).length ≤ 13000 * nodesN n F
  | 0, _, _, h => by cases h
  | n + 1, F, d, h => by
    obtain ⟨-, hc⟩ := one_cases h
    rw [textN_succ, nodes_succ]
    cases hc with
    | kids hk ht hv hs hl h2 ha =>
      have h3 := flat_le n F.kids (fun x hx => text_valid (ha x hx))
      have h4 : (midB F.kind F.typ F.val F.subs).length = 1 := by rcases hk with e | e | e <;> rw [e] <;> rfl
      simp only [List.length_append, List.length_cons, List.length_nil, h4]
      omega
    | val hk ht hv hs hl =>
      have h5 := ht.2.1
      have h6 := toldB_len F.val
      have h4 : (midB F.kind F.typ F.val F.subs).length ≤ F.typ.length + 2 + (toldB F.val).length := by
        rcases hk with e | e | e <;> rw [e] <;> simp [midB] <;> omega
      rw [hl]
      simp only [List.length_append, List.length_cons, List.length_nil, List.flatMap_nil, List.map_nil, List.sum_nil]
      omega
    | sub hk ht hv hs hl =>
      have h5 := ht.2.1
      have h6 := join_len F.subs (fun x hx => by
        obtain ⟨i, hi, rfl⟩ := List.getElem_of_mem hx
        exact (hs.2.2.1 i hi).1)
      have h7 := hs.2.1
      have h4 : (midB F.kind F.typ F.val F.subs).length ≤ F.typ.length + 1 + (joinB F.subs).length := by
        rw [hk]; simp [midB]; omega
      rw [hl]
      simp only [List.length_append, List.length_cons, List.length_nil, List.flatMap_nil, List.map_nil, List.sum_nil]
      omega
    | pre hk ht hv hs hl =>
      have h5 := ht.2.1
      have h4 : (midB F.kind F.typ F.val F.subs).length ≤ F.typ.length + 2 := by
        rw [hk]; simp [midB]
      rw [hl]
      simp only [List.length_append, List.length_cons, List.length_nil, List.flatMap_nil, List.map_nil, List.sum_nil]
      omega
theorem text_isN {n : Nat} {F : Fi} (h : isN n F = true) : (textN n F).length ≤ 832000 := by
  unfold isN at h
  rw [Bool.and_eq_true_iff] at h
  have h1 := text_valid h.1
  have h2 := of_decide_eq_true h.2
  omega
/-- What Print gives. -/
def printN (n : Nat) (F : Fi) : List UInt8 := if isN n F = true then textN n F else []
set_option maxHeartbeats 8000000 in
theorem fprint_any {n : Nat} {w : World} {F : Fi} {vs vk : Value} (h : FilN n w F vs vk) :
    Calls Try.prog 13 #[filV F vs vk] w fun e w' => e = .returned (sv (printN n F)) ∧ Ext w w' := by
  have hlen := fun h => text_isN (n := n) (F := F) h
  obtain ⟨⟨Y1, Y2, Y3, rfl⟩, Z1, Z2, Z3, rfl⟩ := h.shape
  obtain ⟨w1, hw1⟩ : ∃ x, x = w.alloc (.cells #[.int .i64 F.kind, sv F.typ, sv F.val, .slice Y1 Y2 Y3, .slice Z1 Z2 Z3] 25) := ⟨_, rfl⟩
  obtain ⟨p, hp⟩ : ∃ p, p = w.heap.size := ⟨_, rfl⟩
  have x1 : Ext w w1 := by rw [hw1]; exact (Mod.refl _ w).alloc _
  have BP : Blk w1 p 25 #[.int .i64 F.kind, sv F.typ, sv F.val, .slice Y1 Y2 Y3, .slice Z1 Z2 Z3] := by rw [hw1, hp]; exact Blk.new w _ _
  obtain ⟨-, p0, p1, p2, p3, p4⟩ := BP.five
  have his := IsF_any (h.ext x1)
  obtain ⟨b, hb⟩ : ∃ b, b = isN n F := ⟨_, rfl⟩
  obtain ⟨R, hR⟩ : ∃ R, R = printN n F := ⟨_, rfl⟩
  rw [← hR]
  unfold printN at hR
  rw [← hb] at his hR hlen
  replace hw1 := Lib.hid hw1
  replace hp := Lib.hid hp
  replace his := Lib.hid his
  clear hb
  go_enter Try.func13, Try.ntmps13
  go_upto_region 1 with fail
  rw [← hw1.out, ← hp.out]
  go_wp2_with fail
  refine his.out.mono ?_
  rintro e w2 ⟨rfl, x2⟩
  cases b
  · have hr := Lib.hid (show R = [] by rw [hR, if_neg (by decide)])
    clear hR hlen
    go_wp2_with fail
    go_ret
    exact ⟨by rw [hr.out]; rfl, ext_trans x1 x2⟩
  · have hl := hlen rfl
    have hr := Lib.hid (show R = textN n F by rw [hR, if_pos rfl])
    have BP2 := BP.mod x2 (fun h => h)
    obtain ⟨-, q0, q1, q2, q3, q4⟩ := BP2.five
    have hwr := fwrite_any n (h.ext (ext_trans x1 x2)) (Mod.refl _ w2) (Own.nil w2 5) (fresh_nil _ 0 0) (l := []) (by simp; omega)
    replace hwr := Lib.hid hwr
    clear hR hlen p0 p1 p2 p3 p4
    go_wp2_with fail
    refine hwr.out.mono ?_
    rintro e w3 ⟨v3, rfl, o3, n3, m3⟩
    have cv := run_conv (P := Try.prog) Try.underlying48 Try.underlying5 Try.underlying9 o3.sl
    rw [List.nil_append, ← hr.out] at cv
    have x3 : Ext w2 w3 := m3.mono (fun b hb h => by cases h)
    clear hwr
    go_wp2_with fail
    go_ret
    exact ⟨rfl, ext_trans (ext_trans x1 x2) x3⟩
end Go.Proofs.Ytekocbphdckmkaa
