/- filter: the program's reader: kids. -/
import Derived.Test.YtekocbphdckmkaaFpK
namespace Go.Proofs.Ytekocbphdckmkaa
open Go.RowKit
set_option maxRecDepth 100000

theorem sgnP_len {R R3 : List UInt8} {c : UInt8} (h : sgnP R = some (c, R3)) : R3.length < R.length := by
  cases R with
  | nil => cases h
  | cons a Q =>
    simp only [sgnP] at h
    split at h
    · injection h with h
      injection h with _ h
      subst h
      simp
    · split at h
      · injection h with h
        injection h with _ h
        subst h
        rw [List.length_tail, List.length_cons]
        omega
      · cases h
theorem itemP_len {R R' : List UInt8} {F : Fi} (h : itemP R = some (F, R')) : R'.length < R.length ∧ R'.head? = some 41 := by
  unfold itemP at h
  obtain ⟨⟨T, c, R1⟩, h1, h2⟩ := Option.bind_eq_some_iff.1 h
  obtain ⟨⟨p, R2⟩, h3, h4⟩ := Option.bind_eq_some_iff.1 h2
  obtain ⟨f, h5, h6⟩ := Option.map_eq_some_iff.1 h4
  cases h6
  obtain ⟨k1, k2, -⟩ := valP_ok _ R1 _ _ _ (Nat.le_refl _) h3
  refine ⟨?_, k2⟩
  unfold typR at h1
  split at h1
  · obtain ⟨⟨c', R3⟩, h7, h8⟩ := Option.map_eq_some_iff.1 h1
    cases h8
    have hd : (R.dropWhile (! sgnB ·)).length ≤ R.length := by
      have := List.takeWhile_append_dropWhile (p := (! sgnB ·)) (l := R)
      have h9 := congrArg List.length this
      rw [List.length_append] at h9
      omega
    have h9 := sgnP_len h7
    dsimp only at k1 ⊢
    omega
  · cases h1
/-- A reader that goes on. -/
def Goes (p : List UInt8 → PR) : Prop := ∀ R F R', p R = .ok (F, R') → R'.length < R.length
theorem manyP_len {p : List UInt8 → PR} (hp : Goes p) : ∀ (m : Nat) (b : Bool) (K : List Fi) (R : List UInt8) (K' : List Fi) (R' : List UInt8), manyP p m b K R = .ok (K', R') → R'.length ≤ R.length
  | 0, _, _, _, _, _, h => by cases h
  | m + 1, b, K, R, K', R', h => by
    rw [manyP] at h
    split at h
    · split at h
      · cases h
      · rename_i F R2 h2
        have h3 := hp _ _ _ h2
        have h4 := manyP_len hp m b _ R2 K' R' h
        omega
    · cases h; exact Nat.le_refl _
theorem kidsP_len {p : List UInt8 → PR} (hp : Goes p) {kd : Int} {b : Bool} {R : List UInt8} {F : Fi} {R' : List UInt8} (h : kidsP p kd b R = .ok (F, R')) : R'.length ≤ R.length := by
  unfold kidsP at h
  split at h
  · cases h
  · rename_i K R2 h2
    cases h
    exact manyP_len hp _ _ _ _ _ _ h2
theorem innerP_len {p : List UInt8 → PR} (hp : Goes p) {R : List UInt8} {F : Fi} {R' : List UInt8} (h : innerP p R = .ok (F, R')) : R'.length ≤ R.length := by
  unfold innerP at h
  have ht : R.tail.length ≤ R.length := by rw [List.length_tail]; omega
  split at h
  · exact Nat.le_trans (kidsP_len hp h) ht
  · split at h
    · exact Nat.le_trans (kidsP_len hp h) ht
    · split at h
      · exact Nat.le_trans (kidsP_len hp h) ht
      · split at h
        · cases h
        · rename_i x hx
          cases h
          exact Nat.le_of_lt (itemP_len hx).1
theorem filP_goes : ∀ n, Goes (filP n)
  | 0, R, F, R', h => by
    rw [filP] at h
    split at h <;> cases h
  | n + 1, R, F, R', h => by
    rw [filP] at h
    split at h
    · rename_i h0
      unfold closeP at h
      split at h
      · cases h
      · rename_i F2 R2 h2
        have h3 := innerP_len (filP_goes n) h2
        split at h
        · cases h
          have hne : R ≠ [] := fun e => by rw [e] at h0; cases h0
          have h5 := List.length_pos_iff.2 hne
          rw [List.length_tail] at h3 ⊢
          omega
        · cases h
    · cases h
/-- What filter gives. -/
def FilIH (n : Nat) : Prop := ∀ {w : World} {g : Nat} {s : List UInt8} {k : Nat}, Rd w g s k → k ≤ s.length → s.length ≤ 1000000 →
  Calls Try.prog 20 #[.pointer (some ⟨g, 0, none⟩), .int .i64 (17 - (n : Int))] w fun e w' => FOut n (filP n (s.drop k)) w.heap.size w' g s e ∧ Mod (fun b => b = g) w w'
theorem tyF : SliceTyK Try.prog 23 25 (.agg z5) 5 88 := ⟨Try.underlying23, by kernel_rfl, rfl, by decide, by decide⟩
theorem fic_ok {F : Fi} {A B : Option Addr} {n c m d : Nat} : ∀ u ∈ fic (F, .slice A n c, .slice B m d), u.oneCell' = true := by
  intro u hu
  simp only [fic, List.mem_cons, List.not_mem_nil, or_false] at hu
  rcases hu with rfl | rfl | rfl | rfl | rfl <;> rfl
/-- The kids that have come. -/
structure KAt (n : Nat) (w wr : World) (g p fb : Nat) (kd : Int) (s : List UInt8) (v : Value) (C : List FiC) (j : Nat) : Prop where
  bf : Blk wr fb 25 #[.int .i64 kd, sv [], sv [], .slice none 0 0, v]
  bp : Blk wr p 25 z5
  ow : OwnR fic 5 wr 25 v C
  fr : Fresh (w.heap.size + 2) v
  kids : ∀ x ∈ C, FilS (fun b => w.heap.size + 2 ≤ b ∧ ¬ own v b) n wr x.1 x.2.1 x.2.2
  rd : Rd wr g s j
  mod : Mod (fun b => b = g) w wr
  jl : j ≤ s.length
  cl : C.length ≤ j
end Go.Proofs.Ytekocbphdckmkaa
