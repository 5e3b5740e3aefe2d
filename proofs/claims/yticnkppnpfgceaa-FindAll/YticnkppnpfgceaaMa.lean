/-
  Records as plain data: may they be, their bytes, their frames, and back: of no program.
-/
import Derived.Test.YticnkppnpfgceaaMath
namespace Go.Proofs.Yticnkppnpfgceaa

/-- The k lowest bytes of n, the lowest first. -/
def leB (n : Nat) : Nat → List UInt8
  | 0 => []
  | k + 1 => leB n k ++ [UInt8.ofNat (n / 256 ^ k)]
theorem leB_length (n k : Nat) : (leB n k).length = k := by
  induction k with
  | zero => rfl
  | succ k ih => simp [leB, ih]

/-- The number that bytes are, the lowest first. -/
def leV : List UInt8 → Nat
  | [] => 0
  | b :: r => b.toNat + 256 * leV r

theorem leV_lt (l : List UInt8) : leV l < 256 ^ l.length := by
  induction l with
  | nil => simp [leV]
  | cons b r ih =>
    have := b.toNat_lt
    simp only [leV, List.length_cons, Nat.pow_succ]
    omega

theorem leV_snoc (l : List UInt8) (b : UInt8) : leV (l ++ [b]) = leV l + b.toNat * 256 ^ l.length := by
  induction l with
  | nil => simp [leV]
  | cons c r ih =>
    simp only [List.cons_append, leV, ih, List.length_cons, Nat.pow_succ]
    have e : 256 * (b.toNat * 256 ^ r.length) = b.toNat * (256 ^ r.length * 256) := by rw [Nat.mul_left_comm, Nat.mul_comm 256]
    omega

theorem leV_leB (n k : Nat) : leV (leB n k) = n % 256 ^ k := by
  induction k with
  | zero => simp [leB, leV, Nat.mod_one]
  | succ k ih =>
    rw [leB, leV_snoc, ih, leB_length, Nat.mod_pow_succ]
    simp [Nat.mul_comm]

theorem leN_leV (l : List UInt8) : leN l = leV l := by
  induction l with
  | nil => rfl
  | cons b r ih => simp only [leN, leV, ih]

/-- A text as bytes. -/
def textB (s : ByteArray) : List UInt8 := leB (s.data.toList.take 65535).length 2 ++ s.data.toList.take 65535

/-- End, by what there is. -/
def endOf (l : List UInt8) (err : Int) : Int := if err ≠ 0 then err else if l.length = 0 then 0 else 5

/-- What taking k bytes off leaves, the error, and the number. -/
def takeN (k : Nat) (l : List UInt8) (err : Int) : List UInt8 × Int × Nat :=
  if err ≠ 0 then (l, err, 0) else if l.length < k then (l, 4, 0) else (l.drop k, 0, leV (l.take k))

/-- What taking a text off leaves, the error, and the text. -/
def takeT (most : Int) (l : List UInt8) (err : Int) : List UInt8 × Int × List UInt8 :=
  if err ≠ 0 then (l, err, []) else if l.length < 2 then (l, 4, []) else
    if max most 0 < (leV (l.take 2) : Int) then (l, 3, []) else
      if l.length < 2 + leV (l.take 2) then (l, 4, []) else (l.drop (2 + leV (l.take 2)), 0, (l.drop 2).take (leV (l.take 2)))

theorem takeN_back (n k : Nat) (l : List UInt8) (h : n < 256 ^ k) : takeN k (leB n k ++ l) 0 = (l, 0, n) := by
  have hl := leB_length n k
  unfold takeN
  rw [if_neg (by simp), if_neg (by simp [hl]), List.drop_left' hl, List.take_left' hl, leV_leB, Nat.mod_eq_of_lt h]

theorem textB_of (s : ByteArray) (h : s.size ≤ 65535) : textB s = leB s.size 2 ++ s.data.toList := by
  have e : s.data.toList.length = s.size := by simp
  unfold textB
  rw [List.take_of_length_le (by omega), e]

theorem takeT_back (m : Nat) (s : ByteArray) (l : List UInt8) (h : s.size ≤ m) (hm : m ≤ 65535) : takeT m (textB s ++ l) 0 = (l, 0, s.data.toList) := by
  have hl := leB_length s.size 2
  have e : s.data.toList.length = s.size := by simp
  rw [textB_of s (by omega), List.append_assoc]
  have h2 : (leB s.size 2 ++ (s.data.toList ++ l)).take 2 = leB s.size 2 := List.take_left' hl
  have hd : (leB s.size 2 ++ (s.data.toList ++ l)).drop 2 = s.data.toList ++ l := List.drop_left' hl
  have hv : leV (leB s.size 2) = s.size := by rw [leV_leB]; exact Nat.mod_eq_of_lt (by omega)
  unfold takeT
  rw [h2, hv, if_neg (by simp), if_neg (by simp only [List.length_append, hl]; omega), if_neg (by omega), if_neg (by simp only [List.length_append, hl]; omega)]
  rw [← List.drop_drop, hd, List.drop_left' e, List.take_left' e]

structure Tx where
  id : Int
  st : Int
  last : Nat
deriving DecidableEq

structure Di where
  page : Int
  lsn : Nat
deriving DecidableEq

/-- A log record. -/
structure Rc where
  kind : Int
  lsn : Nat
  txn : Int
  prev : Nat
  undo : Nat
  page : Int
  ak : Int
  key : List UInt8
  old : List UInt8
  new : List UInt8
  txns : List Tx
  dirty : List Di
deriving DecidableEq

def Rc.zero : Rc := ⟨0, 0, 0, 0, 0, 0, 0, [], [], [], [], []⟩

/-- May an LSN be? -/
def lsnB (n : Nat) : Bool := decide (16 ≤ n ∧ n ≤ 1152921504606846991)
def idB (n : Int) : Bool := decide (1 ≤ n ∧ n ≤ 1073741824)
def pageB (n : Int) : Bool := decide (0 ≤ n ∧ n < 16)
def chgB (k : Int) : Bool := decide (k = 1 ∨ k = 2)

def txB (t : Tx) : Bool := idB t.id && (decide (0 ≤ t.st ∧ t.st < 3) && lsnB t.last)
def diB (d : Di) : Bool := pageB d.page && lsnB d.lsn

/-- May the row numbered i be? -/
def txAt (l : List Tx) (i : Nat) : Bool := match l[i]? with
  | none => true
  | some t => (decide (i = 0) || match l[i - 1]? with | none => true | some u => decide (u.id < t.id)) && txB t
def diAt (l : List Di) (i : Nat) : Bool := match l[i]? with
  | none => true
  | some t => (decide (i = 0) || match l[i - 1]? with | none => true | some u => decide (u.page < t.page)) && diB t

/-- May the first k rows be? -/
def txUpto (l : List Tx) : Nat → Bool
  | 0 => true
  | k + 1 => txUpto l k && txAt l k
def diUpto (l : List Di) : Nat → Bool
  | 0 => true
  | k + 1 => diUpto l k && diAt l k

def txnsB (l : List Tx) : Bool := decide (l.length ≤ 64) && txUpto l l.length
def dirtyB (l : List Di) : Bool := decide (l.length ≤ 16) && diUpto l l.length

def actB (ak : Int) (key old new : List UInt8) : Bool :=
  decide (0 < ak ∧ ak < 4) && (decide (old = [] ∨ ak ≠ 1) && (decide (new = [] ∨ ak ≠ 3) && (decide (1 ≤ key.length ∧ key.length ≤ 16) && decide (old.length ≤ 32 ∧ new.length ≤ 32))))

def mTxn (r : Rc) : Bool := if r.kind = 7 ∨ r.kind = 8 then decide (r.txn = 0 ∧ r.prev = 0) else idB r.txn
def mChg (r : Rc) : Bool := if chgB r.kind = true then pageB r.page && actB r.ak r.key r.old r.new else decide (r.page = 0 ∧ (r.ak = 0 ∧ r.key = [] ∧ r.old = [] ∧ r.new = []))
def mTab (r : Rc) : Bool := if r.kind = 8 then txnsB r.txns && dirtyB r.dirty else decide (r.txns.length = 0 ∧ r.dirty.length = 0)

/-- May a record be? -/
def mayB (r : Rc) : Bool :=
  decide (0 < r.kind ∧ r.kind < 9) && (lsnB r.lsn && (decide (r.prev < r.lsn ∧ r.undo < r.lsn) && (decide (r.undo = 0 ∨ r.kind = 2) && (mTxn r && (mChg r && mTab r)))))

def txE (t : Tx) : List UInt8 := leB t.id.toNat 4 ++ (leB t.st.toNat 1 ++ leB t.last 8)
def diE (d : Di) : List UInt8 := leB d.page.toNat 2 ++ leB d.lsn 8
def txsE : List Tx → List UInt8
  | [] => []
  | t :: r => txE t ++ txsE r
def disE : List Di → List UInt8
  | [] => []
  | t :: r => diE t ++ disE r

theorem txsE_snoc (l : List Tx) (t : Tx) : txsE (l ++ [t]) = txsE l ++ txE t := by
  induction l with
  | nil => simp [txsE]
  | cons a r ih => simp [txsE, ih]
theorem disE_snoc (l : List Di) (t : Di) : disE (l ++ [t]) = disE l ++ diE t := by
  induction l with
  | nil => simp [disE]
  | cons a r ih => simp [disE, ih]
theorem txE_length (t : Tx) : (txE t).length = 13 := by simp [txE, leB_length]
theorem diE_length (t : Di) : (diE t).length = 10 := by simp [diE, leB_length]
theorem txsE_length (l : List Tx) : (txsE l).length = 13 * l.length := by
  induction l with
  | nil => rfl
  | cons a r ih => simp [txsE, ih, txE_length]; omega
theorem disE_length (l : List Di) : (disE l).length = 10 * l.length := by
  induction l with
  | nil => rfl
  | cons a r ih => simp [disE, ih, diE_length]; omega

def txt (l : List UInt8) : ByteArray := ⟨l.toArray⟩
theorem txt_list (l : List UInt8) : (txt l).data.toList = l := by simp [txt]
theorem txt_size (l : List UInt8) : (txt l).size = l.length := by simp [txt, ByteArray.size]

def headE (r : Rc) : List UInt8 := leB r.kind.toNat 1 ++ (leB r.lsn 8 ++ (leB r.txn.toNat 4 ++ leB r.prev 8))
def undoE (r : Rc) : List UInt8 := if r.kind = 2 then leB r.undo 8 else []
def chgE (r : Rc) : List UInt8 := leB r.page.toNat 2 ++ (leB r.ak.toNat 1 ++ (textB (txt r.key) ++ (textB (txt r.old) ++ (textB (txt r.new) ++ undoE r))))
def tabE (r : Rc) : List UInt8 := leB r.txns.length 1 ++ (txsE r.txns ++ (leB r.dirty.length 1 ++ disE r.dirty))

/-- A record's bytes. -/
def encB (r : Rc) : List UInt8 := headE r ++ ((if chgB r.kind = true then chgE r else []) ++ (if r.kind = 8 then tabE r else []))

/-- What a reader has: the bytes that are left, and its error. -/
abbrev St := List UInt8 × Int
def rN (k : Nat) (s : St) : Nat := (takeN k s.1 s.2).2.2
def sN (k : Nat) (s : St) : St := ((takeN k s.1 s.2).1, (takeN k s.1 s.2).2.1)
def rT (m : Int) (s : St) : List UInt8 := (takeT m s.1 s.2).2.2
def sT (m : Int) (s : St) : St := ((takeT m s.1 s.2).1, (takeT m s.1 s.2).2.1)

theorem rN_back (n k : Nat) (l : List UInt8) (h : n < 256 ^ k) : rN k (leB n k ++ l, 0) = n := by simp [rN, takeN_back n k l h]
theorem sN_back (n k : Nat) (l : List UInt8) (h : n < 256 ^ k) : sN k (leB n k ++ l, 0) = (l, 0) := by simp [sN, takeN_back n k l h]
theorem rT_back (m : Nat) (s l : List UInt8) (h : s.length ≤ m) (hm : m ≤ 65535) : rT m (textB (txt s) ++ l, 0) = s := by
  have := takeT_back m (txt s) l (by rw [txt_size]; exact h) hm
  simp only [rT, this, txt_list]
theorem sT_back (m : Nat) (s l : List UInt8) (h : s.length ≤ m) (hm : m ≤ 65535) : sT m (textB (txt s) ++ l, 0) = (l, 0) := by
  have := takeT_back m (txt s) l (by rw [txt_size]; exact h) hm
  simp only [sT, this]

/-- A row of transactions, taken off. -/
def txR (s : St) : Tx := ⟨rN 4 s, rN 1 (sN 4 s), rN 8 (sN 1 (sN 4 s))⟩
def txS (s : St) : St := sN 8 (sN 1 (sN 4 s))
def diR (s : St) : Di := ⟨rN 2 s, rN 8 (sN 2 s)⟩
def diS (s : St) : St := sN 8 (sN 2 s)

def txsS : Nat → St → St
  | 0, s => s
  | k + 1, s => txS (txsS k s)
def txsR : Nat → St → List Tx
  | 0, _ => []
  | k + 1, s => txsR k s ++ [txR (txsS k s)]
def disS : Nat → St → St
  | 0, s => s
  | k + 1, s => diS (disS k s)
def disR : Nat → St → List Di
  | 0, _ => []
  | k + 1, s => disR k s ++ [diR (disS k s)]

theorem txsS_cons (k : Nat) (s : St) : txsS (k + 1) s = txsS k (txS s) := by
  induction k with
  | zero => rfl
  | succ k ih => rw [txsS, ih, txsS]
theorem txsR_cons (k : Nat) (s : St) : txsR (k + 1) s = txR s :: txsR k (txS s) := by
  induction k with
  | zero => rfl
  | succ k ih => rw [txsR, ih, txsS_cons, txsR]; rfl
theorem disS_cons (k : Nat) (s : St) : disS (k + 1) s = disS k (diS s) := by
  induction k with
  | zero => rfl
  | succ k ih => rw [disS, ih, disS]
theorem disR_cons (k : Nat) (s : St) : disR (k + 1) s = diR s :: disR k (diS s) := by
  induction k with
  | zero => rfl
  | succ k ih => rw [disR, ih, disS_cons, disR]; rfl
theorem txsR_length (k : Nat) (s : St) : (txsR k s).length = k := by
  induction k with
  | zero => rfl
  | succ k ih => simp [txsR, ih]
theorem disR_length (k : Nat) (s : St) : (disR k s).length = k := by
  induction k with
  | zero => rfl
  | succ k ih => simp [disR, ih]

/-- The head, taken off. -/
def headR (s : St) : Rc := ⟨rN 1 s, rN 8 (sN 1 s), rN 4 (sN 8 (sN 1 s)), rN 8 (sN 4 (sN 8 (sN 1 s))), 0, 0, 0, [], [], [], [], []⟩
def headS (s : St) : St := sN 8 (sN 4 (sN 8 (sN 1 s)))
/-- A change, taken off; without what a RecUndo has besides. -/
def chgR (s : St) (r : Rc) : Rc := { r with page := rN 2 s, ak := rN 1 (sN 2 s), key := rT 16 (sN 1 (sN 2 s)), old := rT 32 (sT 16 (sN 1 (sN 2 s))), new := rT 32 (sT 32 (sT 16 (sN 1 (sN 2 s)))) }
def chgS (s : St) : St := sT 32 (sT 32 (sT 16 (sN 1 (sN 2 s))))
def undR (s : St) (r : Rc) : Rc := { r with undo := rN 8 s }
def tabR (s : St) (r : Rc) : Rc := { r with txns := r.txns ++ txsR (rN 1 s) (sN 1 s), dirty := r.dirty ++ disR (rN 1 (txsS (rN 1 s) (sN 1 s))) (sN 1 (txsS (rN 1 s) (sN 1 s))) }
def tabS (s : St) : St := disS (rN 1 (txsS (rN 1 s) (sN 1 s))) (sN 1 (txsS (rN 1 s) (sN 1 s)))

def onChg (x : St × Rc) : St × Rc := if chgB x.2.kind = true then (chgS x.1, chgR x.1 x.2) else x
def onUnd (x : St × Rc) : St × Rc := if x.2.kind = 2 then (sN 8 x.1, undR x.1 x.2) else x
def onTab (x : St × Rc) : St × Rc := if x.2.kind = 8 then (tabS x.1, tabR x.1 x.2) else x
/-- All that is taken off. -/
def rawR (l : List UInt8) : St × Rc := onTab (onUnd (onChg (headS (l, 0), headR (l, 0))))

/-- The record of some bytes. -/
def decB (l : List UInt8) : Option Rc := if endOf (rawR l).1.1 (rawR l).1.2 = 0 ∧ mayB (rawR l).2 = true then some (rawR l).2 else none

end Go.Proofs.Yticnkppnpfgceaa
