/- mem: the cells in order. -/
import Derived.Test.YtlfooppmdgddkaaMemA
namespace Go.Proofs.Ytlfooppmdgddkaa
open Go.RowKit
set_option maxRecDepth 100000

theorem less_irr : ∀ x : List UInt8, Op.bytesLess x x = false
  | [] => rfl
  | a :: x => by
    show (decide (a < a) || (a == a && Op.bytesLess x x)) = false
    rw [less_irr x, decide_eq_false (by rw [UInt8.lt_iff_toNat_lt]; omega)]
    simp

def sortedC (L : List Ce) : Prop := L.Pairwise fun a b => lessC a b = true
/-- L is the nodes' cells, in order. -/
def Ls (N : List Nd) (L : List Ce) : Prop := sortedC L ∧ (∀ k, 0 < k → k < N.length → (nd N k).c ∈ L) ∧ ∀ c ∈ L, ∃ k, 0 < k ∧ k < N.length ∧ (nd N k).c = c
/-- What isn't ahead of a cell. -/
def fromC (L : List Ce) (c : Ce) : List Ce := L.dropWhile fun x => lessC x c
def insC (L : List Ce) (c : Ce) : List Ce := (L.takeWhile fun x => lessC x c) ++ c :: fromC L c
def hasC (L : List Ce) (c : Ce) : Prop := ∃ d ∈ L, d.key = c.key ∧ d.seq = c.seq

theorem drop_head {α : Type} (p : α → Bool) : ∀ (L : List α) {x : α} {R : List α}, L.dropWhile p = x :: R → p x = false
  | [], _, _, h => by cases h
  | y :: L, x, R, h => by
    rw [List.dropWhile_cons] at h
    by_cases hy : p y = true
    · rw [if_pos hy] at h; exact drop_head p L h
    · rw [if_neg hy] at h
      injection h with h1 _
      subst h1
      cases hp : p y
      · rfl
      · exact absurd hp hy
theorem take_all {α : Type} (p : α → Bool) : ∀ (L : List α) {x : α}, x ∈ L.takeWhile p → p x = true
  | [], _, h => by cases h
  | y :: L, x, h => by
    rw [List.takeWhile_cons] at h
    by_cases hy : p y = true
    · rw [if_pos hy] at h
      rcases List.mem_cons.1 h with rfl | h
      · exact hy
      · exact take_all p L h
    · rw [if_neg hy] at h; cases h
theorem from_split (L : List Ce) (c : Ce) : (L.takeWhile fun x => lessC x c) ++ fromC L c = L := List.takeWhile_append_dropWhile
theorem from_ge {L : List Ce} {c x : Ce} (hs : sortedC L) (hx : x ∈ fromC L c) : lessC x c = false := by
  have hd : sortedC (fromC L c) := List.Pairwise.sublist (List.dropWhile_sublist _) hs
  cases hR : fromC L c with
  | nil => rw [hR] at hx; cases hx
  | cons y R =>
    have hy := drop_head (fun x => lessC x c) L hR
    rw [hR] at hx hd
    rcases List.mem_cons.1 hx with rfl | hx
    · exact hy
    · have := (List.pairwise_cons.1 hd).1 x hx
      cases hc : lessC x c
      · rfl
      · have h2 := lessC_trans this hc
        rw [hy] at h2; cases h2
theorem mem_ins {L : List Ce} {c x : Ce} : x ∈ insC L c ↔ x = c ∨ x ∈ L := by
  unfold insC
  conv => rhs; rw [← from_split L c]
  simp only [List.mem_append, List.mem_cons]
  constructor
  · rintro (h | h | h)
    · exact .inr (.inl h)
    · exact .inl h
    · exact .inr (.inr h)
  · rintro (h | h | h)
    · exact .inr (.inl h)
    · exact .inl h
    · exact .inr (.inr h)
theorem ins_sorted {L : List Ce} {c : Ce} (hs : sortedC L) (hno : ¬ hasC L c) : sortedC (insC L c) := by
  have h1 : sortedC (L.takeWhile fun x => lessC x c) := List.Pairwise.sublist (List.takeWhile_sublist _) hs
  have h2 : sortedC (fromC L c) := List.Pairwise.sublist (List.dropWhile_sublist _) hs
  have hc : ∀ x ∈ fromC L c, lessC c x = true := fun x hx => lessC_tot (fun hk => hno ⟨x, by rw [← from_split L c]; exact List.mem_append.2 (.inr hx), hk⟩) (from_ge hs hx)
  refine List.pairwise_append.2 ⟨h1, List.pairwise_cons.2 ⟨hc, h2⟩, fun a ha b hb => ?_⟩
  have hac := take_all _ L ha
  rcases List.mem_cons.1 hb with rfl | hb
  · exact hac
  · exact lessC_trans hac (hc b hb)
theorem ls_ins {N : List Nd} {L : List Ce} {x : Nd} (h : Ls N L) (h0 : 0 < N.length) (hno : ¬ hasC L x.c) : Ls (N ++ [x]) (insC L x.c) := by
  obtain ⟨h1, h2, h3⟩ := h
  refine ⟨ins_sorted h1 hno, fun k k0 kn => ?_, fun c hc => ?_⟩
  · rw [List.length_append, List.length_singleton] at kn
    by_cases hk : k < N.length
    · rw [nd_app x hk]; exact mem_ins.2 (.inr (h2 k k0 hk))
    · have : k = N.length := by omega
      subst this
      rw [nd_new]; exact mem_ins.2 (.inl rfl)
  · rw [List.length_append, List.length_singleton]
    rcases mem_ins.1 hc with rfl | hc
    · exact ⟨N.length, h0, by omega, by rw [nd_new]⟩
    · obtain ⟨k, k0, kn, e⟩ := h3 c hc
      exact ⟨k, k0, by omega, by rw [nd_app x kn]; exact e⟩
theorem ins_length (L : List Ce) (c : Ce) : (insC L c).length = L.length + 1 := by
  have := congrArg List.length (from_split L c)
  unfold insC
  rw [List.length_append] at this
  simp only [List.length_append, List.length_cons]
  omega
/-- A sorted row is what its members are. -/
theorem sorted_ext : ∀ {L M : List Ce}, sortedC L → sortedC M → (∀ c, c ∈ L ↔ c ∈ M) → L = M
  | [], [], _, _, _ => rfl
  | [], b :: M, _, _, h => absurd ((h b).2 (List.mem_cons_self ..)) (by simp)
  | a :: L, [], _, _, h => absurd ((h a).1 (List.mem_cons_self ..)) (by simp)
  | a :: L, b :: M, hl, hm, h => by
    obtain ⟨hl1, hl2⟩ := List.pairwise_cons.1 hl
    obtain ⟨hm1, hm2⟩ := List.pairwise_cons.1 hm
    have hab : a = b := by
      rcases List.mem_cons.1 ((h a).1 (List.mem_cons_self ..)) with e | e
      · exact e
      · rcases List.mem_cons.1 ((h b).2 (List.mem_cons_self ..)) with e2 | e2
        · exact e2.symm
        · have := lessC_trans (hl1 b e2) (hm1 a e)
          rw [lessC_irr] at this; cases this
    subst hab
    rw [sorted_ext hl2 hm2 fun c => ⟨fun hc => ?_, fun hc => ?_⟩]
    · rcases List.mem_cons.1 ((h c).1 (List.mem_cons_of_mem _ hc)) with e | e
      · subst e; have := hl1 c hc; rw [lessC_irr] at this; cases this
      · exact e
    · rcases List.mem_cons.1 ((h c).2 (List.mem_cons_of_mem _ hc)) with e | e
      · subst e; have := hm1 c hc; rw [lessC_irr] at this; cases this
      · exact e

/-- at is where R begins. -/
def AtR (N : List Nd) (at_ : Nat) (R : List Ce) : Prop := (at_ = 0 ∧ R = []) ∨ ∃ R', 0 < at_ ∧ at_ < N.length ∧ R = (nd N at_).c :: R'
section
variable {N : List Nd} {A : List Nat} {L : List Ce} {c : Ce} {p : Nat}
theorem Pa.from_ (s : Sk N A) (l : Ls N L) (q : Pa N A c 0 p) : AtR N (nxt N A p 0) (fromC L c) := by
  obtain ⟨l1, l2, l3⟩ := l
  have hmem : ∀ b, 0 < b → b < N.length → lessC (nd N b).c c = false → (nd N b).c ∈ fromC L c := fun b b0 bn hb => by
    have := l2 b b0 bn
    rw [← from_split L c] at this
    rcases List.mem_append.1 this with h | h
    · have := take_all _ L h; rw [hb] at this; cases this
    · exact h
  have hL := s.link p 0 q.lt q.hi
  cases hR : fromC L c with
  | nil =>
    rcases hL with ⟨hb, _⟩ | ⟨b0, bn, _, _, _⟩
    · exact .inl ⟨hb, rfl⟩
    · rcases q.stop with e | e
      · omega
      · have := hmem _ b0 bn e
        rw [hR] at this; cases this
  | cons y R =>
    have hy := drop_head (fun x => lessC x c) L hR
    have hyL : y ∈ L := by rw [← from_split L c, hR]; simp
    obtain ⟨k, k0, kn, rfl⟩ := l3 y hyL
    have hkh := (s.high k kn).1
    have hlt : ltC N p (nd N k).c := ltC_le q.ahead hy
    rcases hL with ⟨hb, hL⟩ | ⟨b0, bn, bh, hpb, hL⟩
    · exact absurd hlt (hL k k0 kn (by omega))
    · have hst : lessC (nd N (nxt N A p 0)).c c = false := by
        rcases q.stop with e | e
        · omega
        · exact e
      have hbm := hmem _ b0 bn hst
      rw [hR] at hbm
      have hd : sortedC (fromC L c) := List.Pairwise.sublist (List.dropWhile_sublist _) l1
      rw [hR] at hd
      have hd1 := (List.pairwise_cons.1 hd).1
      rcases List.mem_cons.1 hbm with e | e
      · exact .inr ⟨R, b0, bn, by rw [e]⟩
      · rcases hL k k0 kn (by omega) hlt with e2 | e2
        · exact .inr ⟨R, b0, bn, by rw [← e2]⟩
        · have := lessC_trans (hd1 _ e) e2
          rw [lessC_irr] at this; cases this
/-- The next one. -/
theorem AtR.next (s : Sk N A) (l : Ls N L) {a : Nat} {R : List Ce} {pre : List Ce} (a0 : 0 < a) (an : a < N.length) (hL : L = pre ++ (nd N a).c :: R) : AtR N (nxt N A a 0) R := by
  obtain ⟨l1, l2, l3⟩ := l
  have hah := (s.high a an).1
  rw [hL] at l1
  obtain ⟨p1, p2, p3⟩ := List.pairwise_append.1 l1
  obtain ⟨q1, q2⟩ := List.pairwise_cons.1 p2
  have hmem : ∀ b, 0 < b → b < N.length → ltC N a (nd N b).c → (nd N b).c ∈ R := fun b b0 bn hb => by
    have hb : lessC (nd N a).c (nd N b).c = true := by
      rcases hb with h | h
      · omega
      · exact h
    have := l2 b b0 bn
    rw [hL] at this
    rcases List.mem_append.1 this with h | h
    · have := lessC_trans hb (p3 _ h _ (List.mem_cons_self ..)); rw [lessC_irr] at this; cases this
    · rcases List.mem_cons.1 h with h | h
      · rw [h, lessC_irr] at hb; cases hb
      · exact h
  cases R with
  | nil =>
    rcases s.link a 0 an (by omega) with ⟨hb, _⟩ | ⟨b0, bn, _, hb, _⟩
    · exact .inl ⟨hb, rfl⟩
    · cases hmem _ b0 bn hb
  | cons y R =>
    have hyL : y ∈ L := by rw [hL]; simp
    obtain ⟨k, k0, kn, rfl⟩ := l3 y hyL
    have hkh := (s.high k kn).1
    have hlt : ltC N a (nd N k).c := .inr (q1 _ (List.mem_cons_self ..))
    rcases s.link a 0 an (by omega) with ⟨hb, hl⟩ | ⟨b0, bn, _, hb, hl⟩
    · exact absurd hlt (hl k k0 kn (by omega))
    · have hbm := hmem _ b0 bn hb
      rcases List.mem_cons.1 hbm with e | e
      · exact .inr ⟨R, b0, bn, by rw [e]⟩
      · rcases hl k k0 kn (by omega) hlt with e2 | e2
        · exact .inr ⟨R, b0, bn, by rw [← e2]⟩
        · have := lessC_trans ((List.pairwise_cons.1 q2).1 _ e) e2
          rw [lessC_irr] at this; cases this
end

/-- What a key has, told by what isn't ahead of it. -/
theorem first_from {L : List Ce} (hs : sortedC L) (key : List UInt8) (seq : Int) :
    outS (firstC L key seq) = match fromC L ⟨key, [], false, seq⟩ with
      | [] => (cz, false)
      | y :: _ => if y.key = key then (y, true) else (cz, false) := by
  have h1 : firstC L key seq = firstC (fromC L ⟨key, [], false, seq⟩) key seq := by
    unfold firstC
    conv => lhs; rw [← from_split L ⟨key, [], false, seq⟩]
    rw [List.find?_append]
    have : List.find? (fun c => c.key == key && decide (c.seq ≤ seq)) (L.takeWhile fun x => lessC x ⟨key, [], false, seq⟩) = none := by
      rw [List.find?_eq_none]
      intro x hx
      have := take_all _ L hx
      simp only [Bool.and_eq_true, beq_iff_eq, decide_eq_true_eq]
      rintro ⟨hk, hq⟩
      unfold lessC at this
      rw [if_pos hk] at this
      have := of_decide_eq_true this
      simp only at this
      omega
    rw [this, Option.none_or]
  rw [h1]
  have hd : sortedC (fromC L ⟨key, [], false, seq⟩) := List.Pairwise.sublist (List.dropWhile_sublist _) hs
  cases hR : fromC L ⟨key, [], false, seq⟩ with
  | nil => rfl
  | cons y R =>
    have hy := drop_head (fun x => lessC x ⟨key, [], false, seq⟩) L hR
    rw [hR] at hd
    simp only at hy ⊢
    unfold lessC at hy
    simp only at hy
    by_cases hk : y.key = key
    · rw [if_pos hk] at hy ⊢
      have := of_decide_eq_false hy
      unfold firstC
      rw [List.find?_cons, hk, beq_self_eq_true, decide_eq_true (by omega)]
      rfl
    · rw [if_neg hk] at hy ⊢
      have hgt : Op.bytesLess key y.key = true := by rw [less_asym _ _ (Ne.symm hk), hy]; rfl
      have : firstC (y :: R) key seq = none := by
        unfold firstC
        rw [List.find?_eq_none]
        intro x hx
        simp only [Bool.and_eq_true, beq_iff_eq, decide_eq_true_eq]
        rintro ⟨hxk, _⟩
        rcases List.mem_cons.1 hx with rfl | hx
        · exact hk hxk
        · have h2 := (List.pairwise_cons.1 hd).1 x hx
          unfold lessC at h2
          by_cases hyx : y.key = x.key
          · exact hk (hyx.trans hxk)
          · rw [if_neg hyx, hxk, hy] at h2; cases h2
      rw [this]
      rfl
/-- All cells of keys from one to another. -/
def scanC (L : List Ce) (a b : List UInt8) : List Ce := L.filter fun c => !Op.bytesLess c.key a && (b == [] || Op.bytesLess c.key b)
theorem drop_filter {L : List Ce} (hs : sortedC L) (p : Ce → Bool) (hp : ∀ a b, lessC a b = true → p b = true → p a = true) : L.dropWhile p = L.filter fun x => !p x := by
  induction L with
  | nil => rfl
  | cons a L ih =>
    obtain ⟨h1, h2⟩ := List.pairwise_cons.1 hs
    rw [List.dropWhile_cons, List.filter_cons]
    cases ha : p a
    · simp only [Bool.not_false, if_true]
      rw [if_neg (by simp), List.filter_eq_self.2]
      intro x hx
      cases hx2 : p x
      · rfl
      · have := hp a x (h1 x hx) hx2
        rw [ha] at this; cases this
    · simp only [Bool.not_true, if_true]
      rw [if_neg (by simp)]
      exact ih h2
theorem take_filter {L : List Ce} (hs : sortedC L) (p : Ce → Bool) (hp : ∀ a b, lessC a b = true → p b = true → p a = true) : L.takeWhile p = L.filter p := by
  induction L with
  | nil => rfl
  | cons a L ih =>
    obtain ⟨h1, h2⟩ := List.pairwise_cons.1 hs
    rw [List.takeWhile_cons, List.filter_cons]
    cases ha : p a
    · rw [if_neg (by simp), if_neg (by simp), eq_comm, List.filter_eq_nil_iff]
      intro x hx hx2
      have := hp a x (h1 x hx) hx2
      rw [ha] at this; cases this
    · rw [if_pos rfl, if_pos rfl, ih h2]
theorem key_le {a b : Ce} {k : List UInt8} (h : lessC a b = true) (hb : Op.bytesLess b.key k = true) : Op.bytesLess a.key k = true := by
  unfold lessC at h
  by_cases he : a.key = b.key
  · rw [he]; exact hb
  · rw [if_neg he] at h
    exact less_trans _ _ _ h hb
theorem scan_from {L : List Ce} (hs : sortedC L) (hi : ∀ c ∈ L, c.seq ≤ 9223372036854775807) (a b : List UInt8) :
    scanC L a b = (fromC L ⟨a, [], false, 9223372036854775807⟩).takeWhile fun c => b == [] || Op.bytesLess c.key b := by
  have h1 : fromC L ⟨a, [], false, 9223372036854775807⟩ = L.filter fun c => !Op.bytesLess c.key a := by
    unfold fromC
    rw [drop_filter hs _ (fun x y h1 h2 => lessC_trans h1 h2)]
    refine List.filter_congr fun c hc => ?_
    have := hi c hc
    unfold lessC
    by_cases hk : c.key = a
    · rw [if_pos hk, hk, less_irr, decide_eq_false (by simp only; omega)]
    · rw [if_neg hk]
  have h2 : sortedC (L.filter fun c => !Op.bytesLess c.key a) := List.Pairwise.filter _ hs
  rw [h1, take_filter h2 _ (fun x y h1 h2 => ?_), List.filter_filter]
  · unfold scanC
    refine List.filter_congr fun c _ => ?_
    rw [Bool.and_comm]
  · simp only [Bool.or_eq_true] at h2 ⊢
    rcases h2 with h2 | h2
    · exact .inl h2
    · exact .inr (key_le h1 h2)
end Go.Proofs.Ytlfooppmdgddkaa
