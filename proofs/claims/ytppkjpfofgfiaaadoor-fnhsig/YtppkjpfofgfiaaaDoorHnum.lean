/- Plain definitions for signatures by hashes, of no Go text: links, secrets, digits, keys, roots, signatures, and what is checked of them; a signature is checked under its root alone. No conditions. -/
import Derived.Test.YtppkjpfofgfiaaaDoorMnum2
namespace Go.Proofs.YtppkjpfofgfiaaaDoor.Num
set_option linter.unusedVariables false
def shortB (x : ByteArray) : ByteArray := ⟨((shal x.data.toList).take 8).toArray⟩
theorem size_shortB (x : ByteArray) : (shortB x).size = 8 := by
  show ((shal x.data.toList).take 8).toArray.size = 8
  rw [List.size_toArray, List.length_take, length_shal]; rfl
/-- Texts put one behind the other. -/
def cat (xs : List ByteArray) : ByteArray := ⟨(xs.map (·.data.toList)).flatten.toArray⟩
theorem cat_nil : cat [] = ⟨#[]⟩ := rfl
theorem data_cat (xs : List ByteArray) : (cat xs).data.toList = (xs.map (·.data.toList)).flatten := by unfold cat; simp
theorem ext_list {a b : ByteArray} (h : a.data.toList = b.data.toList) : a = b := by
  apply ByteArray.ext; apply Array.ext'; exact h
theorem data_app (a b : ByteArray) : (a ++ b).data.toList = a.data.toList ++ b.data.toList := by
  rw [ByteArray.data_append, Array.toList_append]
theorem cat_snoc (xs : List ByteArray) (x : ByteArray) : cat (xs ++ [x]) = cat xs ++ x := by
  apply ext_list
  rw [data_cat, data_app, data_cat, List.map_append, List.flatten_append]
  simp
theorem size_list (a : ByteArray) : a.size = a.data.toList.length := rfl
theorem size_cat (k : Nat) : ∀ (xs : List ByteArray), (∀ x ∈ xs, x.size = k) → (cat xs).size = k * xs.length
  | [], _ => rfl
  | x :: xs, h => by
    have ih := size_cat k xs (fun y hy => h y (List.mem_cons_of_mem _ hy))
    rw [size_list, data_cat] at ih ⊢
    rw [List.map_cons, List.flatten_cons, List.length_append, ih, ← size_list, h x (List.mem_cons_self ..), List.length_cons, Nat.mul_succ, Nat.add_comm]
def hLink (c s : Nat) (x : ByteArray) : ByteArray := shortB (⟨#[2, UInt8.ofNat c, UInt8.ofNat s]⟩ ++ x)
def hSec (seed : ByteArray) (l c : Nat) : ByteArray := shortB (⟨#[3, UInt8.ofNat l, UInt8.ofNat c]⟩ ++ seed)
/-- Behind k links, the first of them that of the step behind s. -/
def hUp (c s : Nat) : Nat → ByteArray → ByteArray
  | 0, x => x
  | k + 1, x => hLink c (s + k + 1) (hUp c s k x)
theorem hUp_add (c d : Nat) (x : ByteArray) : ∀ k, hUp c 0 (d + k) x = hUp c d k (hUp c 0 d x)
  | 0 => rfl
  | k + 1 => by
    show hLink c (0 + (d + k) + 1) (hUp c 0 (d + k) x) = hLink c (d + k + 1) (hUp c d k (hUp c 0 d x))
    rw [hUp_add c d x k, Nat.zero_add]
theorem size_hUp (c s : Nat) (x : ByteArray) (h : x.size = 8) : ∀ k, (hUp c s k x).size = 8
  | 0 => h
  | k + 1 => size_shortB _
def pairOf (m : ByteArray) (i : Nat) : Nat := ((shal m.data.toList).getD (i / 4) 0).toNat / 2 ^ (6 - 2 * (i % 4)) % 4
theorem pairOf_le (m : ByteArray) (i : Nat) : pairOf m i ≤ 3 := by
  unfold pairOf; have := Nat.mod_lt (((shal m.data.toList).getD (i / 4) 0).toNat / 2 ^ (6 - 2 * (i % 4))) (y := 4) (by omega); omega
/-- What is left of 24 behind the first k digits. -/
def leftB (m : ByteArray) : Nat → Nat
  | 0 => 24
  | k + 1 => leftB m k - pairOf m k
theorem leftB_ge (m : ByteArray) : ∀ k, k ≤ 8 → 24 - 3 * k ≤ leftB m k ∧ leftB m k ≤ 24
  | 0, _ => ⟨Nat.le_refl _, Nat.le_refl _⟩
  | k + 1, h => by
    have ih := leftB_ge m k (by omega)
    have := pairOf_le m k
    show 24 - 3 * (k + 1) ≤ leftB m k - pairOf m k ∧ leftB m k - pairOf m k ≤ 24
    omega
def digs (m : ByteArray) : List Nat := (List.range 8).map (pairOf m) ++ [leftB m 8 / 16, leftB m 8 / 4 % 4, leftB m 8 % 4]
theorem length_digs (m : ByteArray) : (digs m).length = 11 := rfl
theorem digs_le (m : ByteArray) : ∀ d ∈ digs m, d ≤ 3 := by
  intro d hd
  have h24 := (leftB_ge m 8 (by omega)).2
  rcases List.mem_append.1 hd with hd | hd
  · obtain ⟨i, _, rfl⟩ := List.mem_map.1 hd
    exact pairOf_le m i
  · rcases List.mem_cons.1 hd with rfl | hd
    · omega
    · rcases List.mem_cons.1 hd with rfl | hd
      · omega
      · rw [List.mem_singleton.1 hd]; omega
def dig (m : ByteArray) (c : Nat) : Nat := (digs m).getD c 0
theorem dig_le (m : ByteArray) (c : Nat) : dig m c ≤ 3 := by
  unfold dig
  rw [List.getD_eq_getElem?_getD]
  by_cases h : c < (digs m).length
  · rw [List.getElem?_eq_getElem h]; exact digs_le m _ (List.getElem_mem h)
  · rw [List.getElem?_eq_none (by omega)]; show 0 ≤ 3; omega
def endOf (seed : ByteArray) (l c : Nat) : ByteArray := hUp c 0 3 (hSec seed l c)
def hPub (seed : ByteArray) (l : Nat) : ByteArray := shortB (cat ((List.range 11).map (endOf seed l)))
def hPubs (seed : ByteArray) : List ByteArray := (List.range 4).map (hPub seed)
theorem length_hPubs (seed : ByteArray) : (hPubs seed).length = 4 := rfl
theorem mem_hPubs (seed : ByteArray) : ∀ x ∈ hPubs seed, x.size = 8 := by
  intro x hx
  obtain ⟨l, _, rfl⟩ := List.mem_map.1 hx
  exact size_shortB _
def hRoot (seed : ByteArray) : ByteArray := treeR (hPubs seed)
theorem size_hRoot (seed : ByteArray) : (hRoot seed).size = 32 := size_treeR _ (by rw [length_hPubs]; omega)
def partOf (seed : ByteArray) (m : ByteArray) (l c : Nat) : ByteArray := hUp c 0 (dig m c) (hSec seed l c)
def hSign (seed : ByteArray) (l : Nat) (m : ByteArray) : ByteArray :=
  cat ((List.range 11).map (partOf seed m l)) ++ ⟨#[UInt8.ofNat l]⟩ ++ cat (treeP (hPubs seed) l)
/-- What HsSecret, HsLink, HsPub and HsSign answer at every number. -/
def secI (seed : ByteArray) (l c : Int) : ByteArray := if 0 ≤ l ∧ l < 4 ∧ 0 ≤ c ∧ c < 11 then hSec seed l.toNat c.toNat else ⟨#[]⟩
def linkI (c s : Int) (x : ByteArray) : ByteArray := if 0 ≤ c ∧ c < 11 ∧ 1 ≤ s ∧ s ≤ 3 then hLink c.toNat s.toNat x else ⟨#[]⟩
def pubI (seed : ByteArray) (l : Int) : ByteArray := if 0 ≤ l ∧ l < 4 then hPub seed l.toNat else ⟨#[]⟩
def signI (seed : ByteArray) (l : Int) (m : ByteArray) : ByteArray := if 0 ≤ l ∧ l < 4 then hSign seed l.toNat m else ⟨#[]⟩
def lastOf (m sig : ByteArray) (c : Nat) : ByteArray := hUp c (dig m c) (3 - dig m c) (sig.extract (8 * c) (8 * c + 8))
def leafByte (sig : ByteArray) : Nat := (sig.data.toList.getD 88 0).toNat
def sigPub (m sig : ByteArray) : ByteArray := shortB (cat ((List.range 11).map (lastOf m sig)))
def hCheck (root m sig : ByteArray) : Bool :=
  if sig.size = 153 ∧ leafByte sig < 4 then incl root (sigPub m sig) (leafByte sig : Nat) 4 [sig.extract 89 121, sig.extract 121 153] else false
/-- A byte that is no leaf's shows nothing. -/
theorem incl_no (root data : ByteArray) (i : Nat) (p : List ByteArray) (h : ¬ i < 4) : incl root data (i : Int) 4 p = false := by
  unfold incl pathR
  rw [if_pos (by omega)]; rfl
theorem hCheck_of (root m sig : ByteArray) (h : sig.size = 153) : hCheck root m sig = incl root (sigPub m sig) (leafByte sig : Nat) 4 [sig.extract 89 121, sig.extract 121 153] := by
  unfold hCheck
  by_cases hl : leafByte sig < 4
  · rw [if_pos ⟨h, hl⟩]
  · rw [if_neg (fun e => hl e.2), incl_no _ _ _ _ hl]
theorem hCheck_no (root m sig : ByteArray) (h : ¬ sig.size = 153) : hCheck root m sig = false := by
  unfold hCheck; rw [if_neg (fun e => h e.1)]
theorem hCheck_no2 (root m sig : ByteArray) (h : ¬ leafByte sig < 4) : hCheck root m sig = false := by
  unfold hCheck; rw [if_neg (fun e => h e.2)]
/-- Parts of eight bytes are found where they were put. -/
theorem part8 : ∀ (xs : List (List UInt8)) (r : List UInt8) (c : Nat) (h : c < xs.length), (∀ x ∈ xs, x.length = 8) → ((xs.flatten ++ r).drop (8 * c)).take 8 = xs[c]
  | [], r, c, h, _ => absurd h (by simp)
  | x :: xs, r, 0, h, hx => by
    have h8 := hx x (List.mem_cons_self ..)
    show ((x ++ xs.flatten ++ r).drop 0).take 8 = x
    rw [List.drop_zero, List.append_assoc, ← h8, List.take_left]
  | x :: xs, r, c + 1, h, hx => by
    have h8 := hx x (List.mem_cons_self ..)
    have ih := part8 xs r c (by simpa using h) (fun y hy => hx y (List.mem_cons_of_mem _ hy))
    have hc : c < xs.length := by simpa using h
    show ((x ++ xs.flatten ++ r).drop (8 * (c + 1))).take 8 = xs[c]
    rw [← ih, List.append_assoc, show 8 * (c + 1) = x.length + 8 * c from by omega, ← List.drop_drop, List.drop_left]
theorem data_extract (s : ByteArray) (a b : Nat) : (s.extract a b).data.toList = (s.data.toList.drop a).take (b - a) := by
  rw [ByteArray.data_extract, Array.toList_extract, List.extract_eq_take_drop]
theorem spl4 : spl 4 = 2 := by decide
theorem spl2 : spl 2 = 1 := by decide
theorem len_path2 (l : List ByteArray) (h : l.length = 2) (i : Nat) : (pathL l i).length = 1 := by
  by_cases hi : i < spl l.length
  · rw [pathL_low l i (by omega) hi, pathL_one _ _ (by rw [h, spl2, List.length_take, h]; rfl)]; rfl
  · rw [pathL_high l i (by omega) hi, pathL_one _ _ (by rw [h, spl2, List.length_drop, h])]; rfl
theorem len_path4 (l : List ByteArray) (h : l.length = 4) (i : Nat) : (pathL l i).length = 2 := by
  by_cases hi : i < spl l.length
  · rw [pathL_low l i (by omega) hi, List.length_append, len_path2 _ (by rw [h, spl4, List.length_take, h]; rfl)]; rfl
  · rw [pathL_high l i (by omega) hi, List.length_append, len_path2 _ (by rw [h, spl4, List.length_drop, h])]; rfl
theorem path_two (seed : ByteArray) (l : Nat) (h : l < 4) : ∃ a b : ByteArray, treeP (hPubs seed) l = [a, b] ∧ a.size = 32 ∧ b.size = 32 := by
  have e := treeP_in (hPubs seed) l (by rw [length_hPubs]; exact h) (by rw [length_hPubs]; omega)
  have hm := mem_treeP (hPubs seed) l
  have hl : (treeP (hPubs seed) l).length = 2 := by rw [e]; exact len_path4 _ (length_hPubs seed) l
  match hp : treeP (hPubs seed) l, hl with
  | [a, b], _ => exact ⟨a, b, rfl, hm a (by rw [hp]; simp), hm b (by rw [hp]; simp)⟩
theorem parts_size (seed m : ByteArray) (l : Nat) : ∀ x ∈ (List.range 11).map (partOf seed m l), x.size = 8 := by
  intro x hx
  obtain ⟨c, _, rfl⟩ := List.mem_map.1 hx
  exact size_hUp _ _ _ (size_shortB _) _
theorem sign_list (seed m : ByteArray) (l : Nat) (a b : ByteArray) (hp : treeP (hPubs seed) l = [a, b]) :
    (hSign seed l m).data.toList = (((List.range 11).map (partOf seed m l)).map (·.data.toList)).flatten ++ (UInt8.ofNat l :: (a.data.toList ++ b.data.toList)) := by
  unfold hSign
  rw [data_app, data_app, data_cat, hp, data_cat]
  simp
theorem flat_len (seed m : ByteArray) (l : Nat) : (((List.range 11).map (partOf seed m l)).map (·.data.toList)).flatten.length = 88 := by
  rw [← data_cat, ← size_list, size_cat 8 _ (parts_size seed m l)]; rfl
theorem size_sign (seed m : ByteArray) (l : Nat) (h : l < 4) : (hSign seed l m).size = 153 := by
  obtain ⟨a, b, hp, ha, hb⟩ := path_two seed l h
  rw [size_list, sign_list seed m l a b hp, List.length_append, flat_len, List.length_cons, List.length_append, ← size_list, ← size_list, ha, hb]
theorem sign_leaf (seed m : ByteArray) (l : Nat) (h : l < 4) : leafByte (hSign seed l m) = l := by
  obtain ⟨a, b, hp, ha, hb⟩ := path_two seed l h
  unfold leafByte
  rw [sign_list seed m l a b hp, List.getD_eq_getElem?_getD, List.getElem?_append_right (by rw [flat_len]; omega), flat_len]
  show (UInt8.ofNat l).toNat = l
  simp; omega
theorem sign_path (seed m : ByteArray) (l : Nat) (h : l < 4) : [(hSign seed l m).extract 89 121, (hSign seed l m).extract 121 153] = treeP (hPubs seed) l := by
  obtain ⟨a, b, hp, ha, hb⟩ := path_two seed l h
  have h88 := flat_len seed m l
  have e := sign_list seed m l a b hp
  rw [size_list] at ha hb
  have e1 : (hSign seed l m).extract 89 121 = a := by
    apply ext_list
    rw [data_extract, e, List.drop_append, h88, List.drop_of_length_le (by omega), List.nil_append]
    show (a.data.toList ++ b.data.toList).take 32 = _
    rw [← ha, List.take_left]
  have e2 : (hSign seed l m).extract 121 153 = b := by
    apply ext_list
    rw [data_extract, e, List.drop_append, h88, List.drop_of_length_le (by omega), List.nil_append]
    show ((a.data.toList ++ b.data.toList).drop 32).take 32 = _
    conv => lhs; rw [← ha, List.drop_left, ha, ← hb, List.take_length]
  rw [e1, e2, hp]
theorem sign_part (seed m : ByteArray) (l c : Nat) (h : l < 4) (hc : c < 11) : (hSign seed l m).extract (8 * c) (8 * c + 8) = partOf seed m l c := by
  obtain ⟨a, b, hp, ha, hb⟩ := path_two seed l h
  apply ext_list
  have := part8 (((List.range 11).map (partOf seed m l)).map (·.data.toList)) (UInt8.ofNat l :: (a.data.toList ++ b.data.toList)) c (by simpa using hc) (by
    intro x hx
    obtain ⟨y, hy, rfl⟩ := List.mem_map.1 hx
    rw [← size_list]; exact parts_size seed m l y hy)
  rw [data_extract, sign_list seed m l a b hp, show 8 * c + 8 - 8 * c = 8 from by omega, this]
  simp
theorem sign_pub (seed m : ByteArray) (l : Nat) (h : l < 4) : sigPub m (hSign seed l m) = hPub seed l := by
  unfold sigPub hPub
  congr 2
  apply List.map_congr_left
  intro c hc
  unfold lastOf endOf
  rw [sign_part seed m l c h (List.mem_range.1 hc)]
  unfold partOf
  have := dig_le m c
  rw [← hUp_add, show dig m c + (3 - dig m c) = 3 from by omega]
/-- What is signed is checked under its root alone. -/
theorem check_sign (seed m : ByteArray) (l : Nat) (h : l < 4) (R : ByteArray) : hCheck R m (hSign seed l m) = ((hRoot seed).toList == R.toList) := by
  have hl : l < (hPubs seed).length := h
  rw [hCheck_of _ _ _ (size_sign seed m l h), sign_pub seed m l h, sign_leaf seed m l h, sign_path seed m l h]
  have hx : hPub seed l = (hPubs seed)[l] := by
    have : ∀ (h' : l < ((List.range 4).map (hPub seed)).length), hPub seed l = ((List.range 4).map (hPub seed))[l] := by intro h'; simp
    exact this hl
  unfold incl
  rw [hx, treeP_in _ l hl (by rw [length_hPubs]; omega), show ((4 : Int)) = (((hPubs seed).length : Nat) : Int) from rfl, pathR_in _ l (hPubs seed).length _ hl (by rw [length_hPubs]; omega), up_path _ (hPubs seed) l hl (Nat.le_refl _)]
  unfold hRoot
  rw [treeR_in _ (by rw [length_hPubs]; omega) (by rw [length_hPubs]; omega)]
  simp
theorem check_own (seed m : ByteArray) (l : Nat) (h : l < 4) : hCheck (hRoot seed) m (hSign seed l m) = true := by
  rw [check_sign seed m l h]; simp
end Go.Proofs.YtppkjpfofgfiaaaDoor.Num
