/- filter: filters of one's own; what a filter's reader gives. -/
import Derived.Test.YtekocbphdckmkaaFpI
namespace Go.Proofs.Ytekocbphdckmkaa
open Go.RowKit
set_option maxRecDepth 100000

/-- vs and vk are the rows of subs and kids of F, at most n deep, in blocks of S. -/
def FilS (S : Nat → Prop) : Nat → World → Fi → Value → Value → Prop
  | 0, _, _, _, _ => False
  | n + 1, w, F, vs, vk => FB F ∧ Ss w S vs F.subs ∧ ∃ C : List FiC, Rc fic 5 w S vk C ∧ C.map (·.1) = F.kids ∧ ∀ x ∈ C, FilS S n w x.1 x.2.1 x.2.2
theorem FilS.fil {S : Nat → Prop} : ∀ {n : Nat} {w : World} {F : Fi} {vs vk : Value}, FilS S n w F vs vk → FilN n w F vs vk
  | 0, _, _, _, _, h => h
  | _ + 1, _, _, _, _, ⟨h0, h1, C, h2, h3, h4⟩ => ⟨h0, h1.mono (fun _ _ _ => trivial), C, h2.mono (fun _ _ _ => trivial), h3, fun y hy => (h4 y hy).fil⟩
theorem FilS.mod {S T : Nat → Prop} : ∀ {n : Nat} {w w' : World} {F : Fi} {vs vk : Value}, FilS S n w F vs vk → Mod T w w' → (∀ k, k < w.heap.size → S k → ¬ T k) → FilS S n w' F vs vk
  | 0, _, _, _, _, _, h, _, _ => h
  | _ + 1, _, _, _, _, _, ⟨h0, h1, C, h2, h3, h4⟩, m, d => ⟨h0, h1.mod m d, C, h2.mod m d, h3, fun y hy => (h4 y hy).mod m d⟩
theorem FilS.mono {S T : Nat → Prop} : ∀ {n : Nat} {w : World} {F : Fi} {vs vk : Value}, FilS S n w F vs vk → (∀ k, k < w.heap.size → S k → T k) → FilS T n w F vs vk
  | 0, _, _, _, _, h, _ => h
  | _ + 1, _, _, _, _, ⟨h0, h1, C, h2, h3, h4⟩, d => ⟨h0, h1.mono d, C, h2.mono d, h3, fun y hy => (h4 y hy).mono d⟩
theorem FilS.more {S : Nat → Prop} : ∀ {n m : Nat} {w : World} {F : Fi} {vs vk : Value}, FilS S n w F vs vk → n ≤ m → FilS S m w F vs vk
  | 0, _, _, _, _, _, h, _ => h.elim
  | _ + 1, 0, _, _, _, _, _, hm => absurd hm (by omega)
  | _ + 1, _ + 1, _, _, _, _, ⟨h0, h1, C, h2, h3, h4⟩, hm => ⟨h0, h1, C, h2, h3, fun y hy => (h4 y hy).more (by omega)⟩
theorem FilS.ext {S : Nat → Prop} {n : Nat} {w w' : World} {F : Fi} {vs vk : Value} (h : FilS S n w F vs vk) (x : Ext w w') : FilS S n w' F vs vk := h.mod x (fun _ _ _ h => h)
/-- A filter without kids. -/
theorem FilS.leaf {S : Nat → Prop} {w : World} {F : Fi} {vs : Value} (h0 : FB F) (h1 : Ss w S vs F.subs) (h2 : F.kids = []) : FilS S 1 w F vs (.slice none 0 0) :=
  ⟨h0, h1, [], Rc.nil _ _ _ _, h2.symm, fun x hx => by cases hx⟩
theorem FilS.shape {S : Nat → Prop} {n : Nat} {w : World} {F : Fi} {vs vk : Value} (h : FilS S n w F vs vk) : (∃ A c, vs = .slice A F.subs.length c) ∧ ∃ A c, vk = .slice A F.kids.length c := by
  cases n with
  | zero => exact h.elim
  | succ n =>
    obtain ⟨-, h1, C, h2, h3, -⟩ := h
    obtain ⟨A, c, e, -⟩ := h1.open_
    obtain ⟨B, d, e2⟩ := h2.shape
    exact ⟨⟨A, c, e⟩, B, d, by rw [e2, ← h3, List.length_map]⟩
def toPR : Option (Fi × List UInt8) → PR
  | none => .error 3
  | some y => .ok y
def fz : Fi := .mk 0 [] [] [] []
abbrev filV (F : Fi) (vs vk : Value) : Value := .agg #[.int .i64 F.kind, sv F.typ, sv F.val, vs, vk]
/-- What a reader of filters gives, of what it is to give. -/
def FOut (n : Nat) (R : PR) (B : Nat) (w' : World) (g : Nat) (s : List UInt8) (e : Ending) : Prop :=
  ∃ (F : Fi) (vs vk : Value) (x j : Nat), e = .returned (.tuple #[filV F vs vk, .int .i64 (x : Int)]) ∧ j ≤ s.length ∧ Rd w' g s j ∧
    ((R = .error x ∧ x ≠ 0 ∧ F = fz ∧ vs = .slice none 0 0 ∧ vk = .slice none 0 0) ∨ (R = .ok (F, s.drop j) ∧ x = 0 ∧ FilS (fun b => B ≤ b) n w' F vs vk))
/-- Five cells of a block set. -/
abbrev W5 (w : World) (p : Nat) (a b c d e : Value) : World := ((((w.setCell ⟨p, 0, none⟩ a).setCell ⟨p, 1, none⟩ b).setCell ⟨p, 2, none⟩ c).setCell ⟨p, 3, none⟩ d).setCell ⟨p, 4, none⟩ e
section
variable {w w0 : World} {p g : Nat} {t : TypeId} {c0 c1 c2 c3 c4 : Value}
theorem Blk.five (B : Blk w p t #[c0, c1, c2, c3, c4]) : (w.frozen? ⟨p, 0, none⟩ = false ∧ w.frozen? ⟨p, 1, none⟩ = false ∧ w.frozen? ⟨p, 2, none⟩ = false ∧ w.frozen? ⟨p, 3, none⟩ = false ∧ w.frozen? ⟨p, 4, none⟩ = false) ∧
    w.cell? ⟨p, 0, none⟩ = some c0 ∧ w.cell? ⟨p, 1, none⟩ = some c1 ∧ w.cell? ⟨p, 2, none⟩ = some c2 ∧ w.cell? ⟨p, 3, none⟩ = some c3 ∧ w.cell? ⟨p, 4, none⟩ = some c4 :=
  ⟨⟨B.frozen 0, B.frozen 1, B.frozen 2, B.frozen 3, B.frozen 4⟩, B.cell 0, B.cell 1, B.cell 2, B.cell 3, B.cell 4⟩
theorem Blk.set5 (B : Blk w p t #[c0, c1, c2, c3, c4]) (a b c d e : Value) : Blk (W5 w p a b c d e) p t #[a, b, c, d, e] := ((((B.set_ 0 a).set_ 1 b).set_ 2 c).set_ 3 d).set_ 4 e
theorem Blk.far5 {q : Nat} {u : TypeId} {cs : Array Value} (B : Blk w q u cs) (h : q ≠ p) (a b c d e : Value) : Blk (W5 w p a b c d e) q u cs :=
  Blk.far (p := ⟨p, 4, none⟩) (Blk.far (p := ⟨p, 3, none⟩) (Blk.far (p := ⟨p, 2, none⟩) (Blk.far (p := ⟨p, 1, none⟩) (Blk.far (p := ⟨p, 0, none⟩) B h a) h b) h c) h d) h e
theorem mod5 {F : Nat → Prop} (m : Mod F w0 w) (h : p < w0.heap.size → F p) (a b c d e : Value) : Mod F w0 (W5 w p a b c d e) :=
  ((((m.setCell (p := ⟨p, 0, none⟩) h a).setCell (p := ⟨p, 1, none⟩) h b).setCell (p := ⟨p, 2, none⟩) h c).setCell (p := ⟨p, 3, none⟩) h d).setCell (p := ⟨p, 4, none⟩) h e
theorem mod5_at (w : World) (p : Nat) (a b c d e : Value) : Mod (fun k => k = p) w (W5 w p a b c d e) := mod5 (Mod.refl (fun k => k = p) w) (fun _ => rfl) a b c d e
end
theorem idx_take : ∀ (R : List UInt8), (Lib.indexAny R sgns = -1 ∧ R.dropWhile (! sgnB ·) = []) ∨ ∃ n : Nat, n < R.length ∧ Lib.indexAny R sgns = (n : Int) ∧ R.takeWhile (! sgnB ·) = R.take n ∧ R.dropWhile (! sgnB ·) = R.drop n
  | [] => .inl ⟨rfl, rfl⟩
  | b :: R => by
    cases hb : sgnB b
    · have ih := idx_take R
      have e : Lib.indexAny (b :: R) sgns = if Lib.indexAny R sgns == -1 then -1 else Lib.indexAny R sgns + 1 := by
        rw [Lib.indexAny, sgns_has, hb]; rfl
      have e1 : (b :: R).takeWhile (! sgnB ·) = b :: R.takeWhile (! sgnB ·) := by rw [List.takeWhile_cons, hb]; rfl
      have e2 : (b :: R).dropWhile (! sgnB ·) = R.dropWhile (! sgnB ·) := by rw [List.dropWhile_cons, hb]; rfl
      rw [e, e1, e2]
      rcases ih with ⟨h1, h2⟩ | ⟨n, h0, h1, h2, h3⟩
      · exact .inl ⟨by rw [h1]; rfl, h2⟩
      · refine .inr ⟨n + 1, by simp; omega, ?_, by rw [h2]; rfl, by rw [h3]; rfl⟩
        rw [h1, if_neg (by rw [beq_iff_eq]; omega)]
        omega
    · refine .inr ⟨0, by simp, ?_, by rw [List.takeWhile_cons, hb]; rfl, by rw [List.dropWhile_cons, hb]; rfl⟩
      rw [Lib.indexAny, sgns_has, hb]; rfl
theorem valP_head : ∀ (m : Nat) (R cur : List UInt8) (p : List (List UInt8)) (R' : List UInt8), R.length ≤ m → valP R cur = some (p, R') → ∃ t q, p = (cur ++ t) :: q
  | 0, R, cur, p, R', hm, h => by
    obtain rfl : R = [] := List.eq_nil_of_length_eq_zero (by omega)
    cases h
  | m + 1, [], cur, p, R', hm, h => by cases h
  | m + 1, c :: R, cur, p, R', hm, h => by
    simp only [List.length_cons] at hm
    by_cases h1 : c = 41
    · subst h1
      rw [valP_end] at h
      cases h
      exact ⟨[], [], by simp⟩
    by_cases h2 : c = 40 ∨ c = 0
    · rw [valP_bad h2] at h; cases h
    by_cases h3 : c = 42
    · subst h3
      rw [valP_star] at h
      obtain ⟨⟨q, R2⟩, h5, h6⟩ := Option.map_eq_some_iff.1 h
      cases h6
      exact ⟨[], q, by simp⟩
    by_cases h4 : c = 92
    · subst h4
      match R with
      | [] => rw [valP_noesc (by intro a b R' x y h; cases h)] at h; cases h
      | [a] => rw [valP_noesc (by intro a b R' x y h; cases h)] at h; cases h
      | a :: b :: R2 =>
        cases ha : digB a with
        | none => rw [valP_noesc (by intro a' b' R' x y h hx hy; cases h; rw [ha] at hx; cases hx)] at h; cases h
        | some x =>
          cases hb : digB b with
          | none => rw [valP_noesc (by intro a' b' R' x y h hx hy; cases h; rw [hb] at hy; cases hy)] at h; cases h
          | some y =>
            rw [valP_esc ha hb] at h
            simp only [List.length_cons] at hm
            obtain ⟨t, q, e⟩ := valP_head m R2 _ p R' (by omega) h
            exact ⟨[x <<< 4 ||| y] ++ t, q, by rw [e]; simp⟩
    · rw [valP_plain h1 h2 h3 h4] at h
      obtain ⟨t, q, e⟩ := valP_head m R _ p R' (by omega) h
      exact ⟨[c] ++ t, q, by rw [e]; simp⟩
theorem valP_first {c : UInt8} {R : List UInt8} {p : List (List UInt8)} {R' : List UInt8} (h : valP (c :: R) [] = some ([] :: p, R')) : c = 41 ∨ c = 42 := by
  by_cases h1 : c = 41
  · exact .inl h1
  by_cases h3 : c = 42
  · exact .inr h3
  exfalso
  by_cases h2 : c = 40 ∨ c = 0
  · rw [valP_bad h2] at h; cases h
  by_cases h4 : c = 92
  · subst h4
    match R with
    | [] => rw [valP_noesc (by intro a b R' x y h; cases h)] at h; cases h
    | [a] => rw [valP_noesc (by intro a b R' x y h; cases h)] at h; cases h
    | a :: b :: R2 =>
      cases ha : digB a with
      | none => rw [valP_noesc (by intro a' b' R' x y h hx hy; cases h; rw [ha] at hx; cases hx)] at h; cases h
      | some x =>
        cases hb : digB b with
        | none => rw [valP_noesc (by intro a' b' R' x y h hx hy; cases h; rw [hb] at hy; cases hy)] at h; cases h
        | some y =>
          rw [valP_esc ha hb] at h
          obtain ⟨t, q, e⟩ := valP_head _ R2 _ _ R' (Nat.le_refl _) h
          cases e
  · rw [valP_plain h1 h2 h3 h4] at h
    obtain ⟨t, q, e⟩ := valP_head _ R _ _ R' (Nat.le_refl _) h
    cases e
/-- A star alone. -/
theorem alone_iff {R : List UInt8} {p : List (List UInt8)} {R' : List UInt8} (h : valP R [] = some (p, R')) : preB R [42, 41] = decide (p = [[], []]) := by
  rw [pre_two]
  refine decide_eq_decide.2 ⟨fun ⟨h1, h2⟩ => ?_, fun hp => ?_⟩
  · match R, h1, h2 with
    | a :: b :: R, h1, h2 =>
      cases h1
      cases h2
      rw [valP_star, valP_end] at h
      cases h
      rfl
  · subst hp
    match R, h with
    | a :: R, h =>
      rcases valP_first h with rfl | rfl
      · rw [valP_end] at h; cases h
      · rw [valP_star] at h
        obtain ⟨⟨q, R2⟩, h5, h6⟩ := Option.map_eq_some_iff.1 h
        cases h6
        match R, h5 with
        | b :: R, h5 =>
          rcases valP_first h5 with rfl | rfl
          · exact ⟨rfl, rfl⟩
          · rw [valP_star] at h5
            obtain ⟨⟨q, R3⟩, h7, h8⟩ := Option.map_eq_some_iff.1 h5
            cases h8
            obtain ⟨-, -, h9, -⟩ := valP_ok _ R _ _ R3 (Nat.le_refl _) h7
            exact absurd rfl h9
theorem itemP_none {R : List UInt8} (h : R.dropWhile (! sgnB ·) = []) : itemP R = none := by
  unfold itemP typR
  rw [h]
  split <;> rfl
end Go.Proofs.Ytekocbphdckmkaa
