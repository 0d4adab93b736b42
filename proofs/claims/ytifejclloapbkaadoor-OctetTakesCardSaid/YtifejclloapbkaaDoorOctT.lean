/- octet: the program's Reader and the document's, side by side. -/
import Derived.Test.YtifejclloapbkaaDoorOctS
import Derived.Test.YtifejclloapbkaaDoorOctL
namespace Go.Proofs.YtifejclloapbkaaDoor
open Go.RowKit
set_option maxRecDepth 100000

theorem takeRaw_len (n : Int) (st : Option (List UInt8)) : ((takeRaw n st).2.getD []).length ≤ (st.getD []).length ∧ (takeRaw n st).1.length ≤ (st.getD []).length := by
  cases st with
  | none => simp [takeRaw]
  | some l =>
    simp only [takeRaw]
    split
    · simp
    · simp only [Option.getD_some, List.length_drop, List.length_take]; omega
theorem takeB_len (st : Option (List UInt8)) : ((takeB st).2.getD []).length ≤ (st.getD []).length ∧ (takeB st).1.length ≤ (st.getD []).length := by
  have h1 := takeRaw_len (takeN st).1 (takeN st).2
  have h2 := takeN_len st
  unfold takeB
  omega

/-- Two Readers side by side, and the bytes that they were made from. -/
structure Jt (w0 : World) (B b8 b9 : Nat) (T T' : Nat → Prop) (x : Value) (l : List UInt8) (wr : World) (sA sB : Option (List UInt8)) : Prop where
  rd : ∃ v, Rd wr b8 T v sA
  rr : ∃ v, Rr wr b9 T' v sB
  ext : Ext w0 wr
  row : Own wr 5 x ((l ++ [171]).map bv)
  B0 : w0.heap.size ≤ B
  B1 : B ≤ wr.heap.size
  l8 : w0.heap.size ≤ b8
  h8 : b8 < B
  l9 : w0.heap.size ≤ b9
  h9 : b9 < B
  ne : b8 ≠ b9
  t : ∀ k, T k → k < B ∧ k ≠ b9
  t' : ∀ k, T' k → k < B ∧ k ≠ b8
  xo : ∀ k, own x k → k < B ∧ k ≠ b8 ∧ k ≠ b9
  mA : (sA.getD []).length ≤ 4000
  mB : (sB.getD []).length ≤ 4000

variable {w0 wr : World} {B b8 b9 : Nat} {T T' : Nat → Prop} {x : Value} {l : List UInt8} {sA sB : Option (List UInt8)}
theorem Jt.mod {w' : World} {F : Nat → Prop} (h : Jt w0 B b8 b9 T T' x l wr sA sB) (hm : Mod F wr w') (hF : ∀ k, F k → B ≤ k) : Jt w0 B b8 b9 T T' x l w' sA sB := by
  obtain ⟨⟨v, g⟩, ⟨v', g'⟩, h1, h2, h3, h4, h5, h6, h7, h8, h9, h10, h11, h12, h13, h14⟩ := h
  have hf : ∀ k, k < B → ¬ F k := fun k hk hf => by have := hF k hf; omega
  exact ⟨⟨v, g.mod hm (hf _ h6) (fun k _ hk => hf _ (h10 k hk).1)⟩, ⟨v', g'.mod hm (hf _ h8) (fun k _ hk => hf _ (h11 k hk).1)⟩, h1.trans hm (fun _ _ h => h) (fun k hk h => hf k (by omega) h),
    h2.mod hm (fun k hk => hf _ (h12 k hk).1), h3, by have := hm.size; omega, h5, h6, h7, h8, h9, h10, h11, h12, h13, h14⟩
theorem Jt.ext_ {w' : World} (h : Jt w0 B b8 b9 T T' x l wr sA sB) (hm : Ext wr w') : Jt w0 B b8 b9 T T' x l w' sA sB := h.mod hm (fun _ h => h.elim)
theorem Jt.drew (h : Jt w0 B b8 b9 T T' x l wr sA sB) : Jt w0 B b8 b9 T T' x l wr.drew sA sB := h.ext_ (Mod.refl _ wr).drew
theorem Jt.stepA {w' : World} {v : Value} {s : Option (List UInt8)} (h : Jt w0 B b8 b9 T T' x l wr sA sB) (hm : Mod (fun k => k = b8) wr w') (g : Rd w' b8 T v s) (hs : (s.getD []).length ≤ (sA.getD []).length) : Jt w0 B b8 b9 T T' x l w' s sB := by
  obtain ⟨_, ⟨v', g'⟩, h1, h2, h3, h4, h5, h6, h7, h8, h9, h10, h11, h12, h13, h14⟩ := h
  exact ⟨⟨v, g⟩, ⟨v', g'.mod hm (fun e => h9 e.symm) (fun k _ hk => (h11 k hk).2)⟩, h1.trans hm (fun _ _ h => h) (fun k hk h => by omega),
    h2.mod hm (fun k hk => (h12 k hk).2.1), h3, by have := hm.size; omega, h5, h6, h7, h8, h9, h10, h11, h12, by omega, h14⟩
theorem Jt.stepB {w' : World} {v : Value} {s : Option (List UInt8)} (h : Jt w0 B b8 b9 T T' x l wr sA sB) (hm : Mod (fun k => k = b9) wr w') (g : Rr w' b9 T' v s) (hs : (s.getD []).length ≤ (sB.getD []).length) : Jt w0 B b8 b9 T T' x l w' sA s := by
  obtain ⟨⟨v', g'⟩, _, h1, h2, h3, h4, h5, h6, h7, h8, h9, h10, h11, h12, h13, h14⟩ := h
  exact ⟨⟨v', g'.mod hm h9 (fun k _ hk => (h10 k hk).2)⟩, ⟨v, g⟩, h1.trans hm (fun _ _ h => h) (fun k hk h => by omega),
    h2.mod hm (fun k hk => (h12 k hk).2.2), h3, by have := hm.size; omega, h5, h6, h7, h8, h9, h10, h11, h12, h13, by omega⟩

theorem jnum (h : Jt w0 B b8 b9 T T' x l wr sA sB) :
    Calls Tryd.prog 17 #[.pointer (some ⟨b8, 0, none⟩)] wr fun e w' => e = .returned (.int .i64 (takeN sA).1) ∧ Jt w0 B b8 b9 T T' x l w' (takeN sA).2 sB ∧ Mod (fun k => k = b8) wr w' := by
  obtain ⟨v, g⟩ := h.rd
  refine (num_any g).mono ?_
  rintro e w1 ⟨v1, rfl, g1, g2, g3⟩
  exact ⟨rfl, h.stepA g2 g1 (takeN_len _), g2⟩
theorem jrnum (h : Jt w0 B b8 b9 T T' x l wr sA sB) :
    Calls Tryd.prog 30 #[.pointer (some ⟨b9, 0, none⟩)] wr fun e w' => e = .returned (.int .i64 (takeN sB).1) ∧ Jt w0 B b8 b9 T T' x l w' sA (takeN sB).2 ∧ Mod (fun k => k = b9) wr w' := by
  obtain ⟨v, g⟩ := h.rr
  have := h.mB
  refine (rrnum_any g (by omega)).mono ?_
  rintro e w1 ⟨v1, rfl, g1, g2⟩
  exact ⟨rfl, h.stepB g2 g1 (takeN_len _), g2⟩
theorem jbad (h : Jt w0 B b8 b9 T T' x l wr sA sB) :
    Calls Tryd.prog 33 #[.pointer (some ⟨b8, 0, none⟩)] wr fun e w' => e = .returned (.tuple #[]) ∧ Jt w0 B b8 b9 T T' x l w' none sB := by
  obtain ⟨v, g⟩ := h.rd
  refine (bad_any g).mono ?_
  rintro e w1 ⟨rfl, g1, g2, g3⟩
  exact ⟨rfl, h.stepA g2 g1 (by simp)⟩
theorem jrbad (h : Jt w0 B b8 b9 T T' x l wr sA sB) :
    Calls Tryd.prog 34 #[.pointer (some ⟨b9, 0, none⟩)] wr fun e w' => e = .returned (.tuple #[]) ∧ Jt w0 B b8 b9 T T' x l w' sA none := by
  obtain ⟨v, g⟩ := h.rr
  refine (rbad_any g).mono ?_
  rintro e w1 ⟨rfl, g1, g2, g3⟩
  exact ⟨rfl, h.stepB g2 g1 (by simp)⟩
/-- A row handed out: its bytes, in a block that is its own and newer than the Readers. -/
def Out (w : World) (B : Nat) (v : Value) (l : List UInt8) : Prop := Own w 5 v (l.map bv) ∧ Fresh B v
theorem Out.mod {w w' : World} {F : Nat → Prop} {v : Value} {l : List UInt8} (h : Out w B v l) (hm : Mod F w w') (hF : ∀ k, F k → k < B) : Out w' B v l :=
  ⟨h.1.mod hm (fun k hk hf => by have := h.2 k hk; have := hF k hf; omega), h.2⟩
theorem jbytes (h : Jt w0 B b8 b9 T T' x l wr sA sB) :
    Calls Tryd.prog 27 #[.pointer (some ⟨b8, 0, none⟩)] wr fun e w' => ∃ v1, e = .returned v1 ∧ Jt w0 B b8 b9 T T' x l w' (takeB sA).2 sB ∧ Out w' B v1 (takeB sA).1 ∧ Mod (fun k => k = b8) wr w' := by
  obtain ⟨v, g⟩ := h.rd
  have := h.mA
  refine (bytes_any g (by omega)).mono ?_
  rintro e w1 ⟨v1, v2, rfl, g1, g2, g3, g4⟩
  exact ⟨v2, rfl, h.stepA g4 g1 (takeB_len _).1, ⟨g2, g3.mono h.B1⟩, g4⟩
theorem jrbytes (h : Jt w0 B b8 b9 T T' x l wr sA sB) :
    Calls Tryd.prog 31 #[.pointer (some ⟨b9, 0, none⟩)] wr fun e w' => ∃ v1, e = .returned v1 ∧ Jt w0 B b8 b9 T T' x l w' sA (takeB sB).2 ∧ Out w' B v1 (takeB sB).1 ∧ Mod (fun k => k = b9) wr w' := by
  obtain ⟨v, g⟩ := h.rr
  have := h.mB
  refine (rrbytes_any g (by omega)).mono ?_
  rintro e w1 ⟨v1, v2, rfl, g1, g2, g3, g4⟩
  exact ⟨v2, rfl, h.stepB g4 g1 (takeB_len _).1, ⟨g2, g3.mono h.B1⟩, g4⟩
theorem jraw (h : Jt w0 B b8 b9 T T' x l wr sA sB) (n : Int) :
    Calls Tryd.prog 29 #[.pointer (some ⟨b8, 0, none⟩), .int .i64 n] wr fun e w' => ∃ v1, e = .returned v1 ∧ Jt w0 B b8 b9 T T' x l w' (takeRaw n sA).2 sB ∧ Out w' B v1 (takeRaw n sA).1 ∧ Mod (fun k => k = b8) wr w' := by
  obtain ⟨v, g⟩ := h.rd
  have := h.mA
  refine (raw_any g n (by omega)).mono ?_
  rintro e w1 ⟨v1, v2, rfl, g1, g2, g3, g4⟩
  exact ⟨v2, rfl, h.stepA g4 g1 (takeRaw_len _ _).1, ⟨g2, g3.mono h.B1⟩, g4⟩
theorem jrraw (h : Jt w0 B b8 b9 T T' x l wr sA sB) (n : Int) :
    Calls Tryd.prog 32 #[.pointer (some ⟨b9, 0, none⟩), .int .i64 n] wr fun e w' => ∃ v1, e = .returned v1 ∧ Jt w0 B b8 b9 T T' x l w' sA (takeRaw n sB).2 ∧ Out w' B v1 (takeRaw n sB).1 ∧ Mod (fun k => k = b9) wr w' := by
  obtain ⟨v, g⟩ := h.rr
  have := h.mB
  refine (rraw_any g n (by omega)).mono ?_
  rintro e w1 ⟨v1, v2, rfl, g1, g2, g3, g4⟩
  exact ⟨v2, rfl, h.stepB g4 g1 (takeRaw_len _ _).1, ⟨g2, g3.mono h.B1⟩, g4⟩
theorem jsame (h : Jt w0 B b8 b9 T T' x l wr sA sB) {u v : Value} {p : List UInt8} (hu : Out wr B u p) (hv : Out wr B v p) :
    Calls Tryd.prog 13 #[u, v] wr fun e w' => e = .returned (.bool true) ∧ Jt w0 B b8 b9 T T' x l w' sA sB ∧ Out w' B u p := by
  refine (same_any hu.1.sl hv.1.sl).mono ?_
  rintro e w1 ⟨rfl, n, rfl⟩
  rw [decide_eq_true (rfl : p = p)]
  exact ⟨rfl, h.ext_ ((Mod.refl _ _).drewN n), hu.mod ((Mod.refl (fun _ => False) _).drewN n) (fun _ h => h.elim)⟩
theorem jspoil (h : Jt w0 B b8 b9 T T' x l wr sA sB) {u : Value} {p : List UInt8} (hu : Out wr B u p) (hp : p.length ≤ 4000) :
    Calls Tryd.prog 16 #[u] wr fun e w' => e = .returned (.tuple #[]) ∧ Jt w0 B b8 b9 T T' x l w' sA sB := by
  refine (spoil_any hu.1 (by omega)).mono ?_
  rintro e w1 ⟨rfl, g⟩
  exact ⟨rfl, h.mod g hu.2⟩
theorem jnums (h : Jt w0 B b8 b9 T T' x l wr sA sB) {pa pc : Nat} {S : Nat → Prop} {y : Value} {va vc : Value} (ha : Blk wr pa 3 #[va]) (hc : Blk wr pc 3 #[vc])
    (hy : Sl wr S y [.pointer (some ⟨pa, 0, none⟩), .pointer none, .pointer (some ⟨pc, 0, none⟩)]) (hS : ∀ k, S k → B ≤ k ∧ k ≠ pa ∧ k ≠ pc) (hpa : B ≤ pa) (hpc : B ≤ pc) (hac : pa ≠ pc) :
    Calls Tryd.prog 35 #[.pointer (some ⟨b8, 0, none⟩), y] wr fun e w' => e = .returned (.tuple #[]) ∧ Jt w0 B b8 b9 T T' x l w' (takeN (takeN (takeN sA).2).2).2 sB ∧
      Blk w' pa 3 #[.int .i64 (takeN sA).1] ∧ Blk w' pc 3 #[.int .i64 (takeN (takeN (takeN sA).2).2).1] := by
  obtain ⟨v, g⟩ := h.rd
  have h8 := h.h8
  have q1 := takeN_len sA
  have q2 := takeN_len (takeN sA).2
  have q3 := takeN_len (takeN (takeN sA).2).2
  refine (rdnums_three g ha hc hy (fun k _ hk hf => ?_) (fun k hk => ?_) (by omega) (by omega) hac).mono ?_
  · have := hS k hk
    omega
  · have := (h.t k hk).1
    omega
  rintro e w1 ⟨rfl, v1, g1, g2, g3, g4⟩
  refine ⟨rfl, ?_, g2, g3⟩
  obtain ⟨_, ⟨v', g'⟩, h1, h2, h3, h4, h5, h6, h7, h8, h9, h10, h11, h12, h13, h14⟩ := h
  exact ⟨⟨v1, g1⟩, ⟨v', g'.mod g4 (by omega) (fun k _ hk => by have := h11 k hk; omega)⟩, h1.trans g4 (fun _ _ h => h) (fun k hk h => by omega),
    h2.mod g4 (fun k hk => by have := h12 k hk; omega), h3, by have := g4.size; omega, h5, h6, h7, h8, h9, h10, h11, h12, by omega, h14⟩
end Go.Proofs.YtifejclloapbkaaDoor
