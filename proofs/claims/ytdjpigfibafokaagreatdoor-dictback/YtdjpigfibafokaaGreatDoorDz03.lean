/- Keys by their bits, with no word of the program: what it is to be a key with a bit turned, filled up, the next one, and which stands ahead. -/
import Derived.Test.YtdjpigfibafokaaGreatDoorDz01
import Derived.Test.YtdjpigfibafokaaGreatDoorDz02
import Derived.Laws.BitsAllLaws
import Derived.Deep.MidRow
import Derived.Deep.WholeRow
namespace Go.Proofs.YtdjpigfibafokaaGreatDoor
variable {c d g:Nat}
variable {w:World}
variable {xs ys zs:Lq}
set_option maxRecDepth 20000
open Go.RowKit

def bt (x:Int) (k:Nat):Int:=x / 2 ^ (7-k) % 2
def kb (xs:Lq) (d:Nat):Int:=bt (xs.getD (d / 8) 0) (d % 8)
def Key (xs:Lq):Prop:=xs.length=32∧Bytes xs

theorem bt_two (x:Int) (k:Nat):bt x k=0∨bt x k=1:=by
  unfold bt;generalize x / 2 ^ (7-k)=y;omega
theorem kb_two (xs:Lq) (d:Nat):kb xs d=0∨kb xs d=1:=bt_two _ _

theorem byte_ext (x y:Int) (hx:0≤x∧x≤255) (hy:0≤y∧y≤255) (h:∀k,k<8→bt x k=bt y k):x=y:=by
  have h0:=h 0 (by omega);have h1:=h 1 (by omega);have h2:=h 2 (by omega);have h3:=h 3 (by omega);have h4:=h 4 (by omega);have h5:=h 5 (by omega);have h6:=h 6 (by omega);have h7:=h 7 (by omega);simp only [bt,Nat.reduceSub,Int.reducePow] at h0 h1 h2 h3 h4 h5 h6 h7;omega

theorem Key.byte (h:Key xs) (i:Nat):0≤xs.getD i 0∧xs.getD i 0≤255:=h.2.getD i

theorem key_ext (hx:Key xs) (hy:Key ys) (h:∀d,d<256→kb xs d=kb ys d):xs=ys:=by
  apply List.ext_getElem (by rw [hx.1,hy.1]);intro i h1 h2;have e:xs.getD i 0=ys.getD i 0:=by
    refine byte_ext _ _ (hx.byte i) (hy.byte i) fun k hk=>?_
    have hi:i<32:=by rw [← hx.1];exact h1
    have:=h (8 * i+k) (by omega);unfold kb at this;rw [show (8 * i+k) / 8=i by omega,show (8 * i+k) % 8=k by omega] at this;exact this
  simpa [List.getD,h1,h2] using e

theorem Bytes.set (h:Bytes zs) (i:Nat) (z:Int) (hz:0≤z∧z≤255):Bytes (zs.set i z):=fun u hu=>by
  rcases List.mem_or_eq_of_mem_set hu with h1 | rfl
  · exact h u h1
  · exact hz
theorem Key.set (h:Key xs) (i:Nat) (z:Int) (hz:0≤z∧z≤255):Key (xs.set i z):=⟨by rw [List.length_set];exact h.1,h.2.set i z hz⟩

theorem key_getD_set (xs:Lq) (i j:Nat) (z:Int) (hi:i<xs.length):(xs.set i z).getD j 0=if j=i then z else xs.getD j 0:=by
  by_cases e:j=i
  · subst e
    simp [List.getD,hi]
  · rw [if_neg e]
    simp [List.getD,List.getElem?_set_ne (Ne.symm e)]

def IsSet (xs:Lq) (d:Nat) (b:Int) (ys:Lq):Prop:=Key ys∧∀j,j<256→kb ys j=if j=d then b else kb xs j
def IsFlip (xs:Lq) (d:Nat) (ys:Lq):Prop:=Key ys∧∀j,j<256→kb ys j=if j=d then 1-kb xs j else kb xs j
def IsFill (xs:Lq) (d:Nat) (b:Int) (ys:Lq):Prop:=Key ys∧∀j,j<256→kb ys j=if j<d then kb xs j else b
def IsLast (xs:Lq):Prop:=∀j,j<256→kb xs j=1
def IsNext (xs ys:Lq):Prop:=Key ys∧∃k,k<256∧kb xs k=0∧kb ys k=1∧(∀j,j<k→kb ys j=kb xs j)∧∀j,k<j→j<256→kb xs j=1∧kb ys j=0
def IsCommon (xs ys:Lq) (c:Nat):Prop:=c≤256∧(∀j,j<c→kb xs j=kb ys j)∧(c<256→kb xs c≠kb ys c)
def Ahead (xs ys:Lq):Prop:=∃c,c<256∧(∀j,j<c→kb xs j=kb ys j)∧kb xs c=0∧kb ys c=1

theorem IsCommon.one (h:IsCommon xs ys c) (k:IsCommon xs ys d):c=d:=by
  obtain ⟨h1,h2,h3⟩:=h;obtain ⟨k1,k2,k3⟩:=k;rcases Nat.lt_trichotomy c d with e | e | e
  · exact absurd (k2 c e) (h3 (by omega))
  · exact e
  · exact absurd (h2 d e) (k3 (by omega))
theorem IsCommon.whole (hx:Key xs) (hy:Key ys) (h:IsCommon xs ys 256):xs=ys:=key_ext hx hy h.2.1
theorem IsCommon.self (xs:Lq):IsCommon xs xs 256:=⟨by omega,fun _ _=>rfl,fun h=>by omega⟩
theorem Ahead.not (h:Ahead xs ys) (k:Ahead ys xs):False:=by
  obtain ⟨a,ha,a1,a2,a3⟩:=h;obtain ⟨b,hb,b1,b2,b3⟩:=k;rcases Nat.lt_trichotomy a b with e | e | e
  · have:=b1 a e;omega
  · subst e;omega
  · have:=a1 b e;omega
theorem Ahead.ne (h:Ahead xs xs):False:=h.not h

theorem byte_first (x y:Int) (hx:0≤x∧x≤255) (hy:0≤y∧y≤255) (h:x<y):∃k,k<8∧(∀j,j<k→bt x j=bt y j)∧bt x k=0∧bt y k=1:=by
  have key:∀k,k≤8→(∃k,k<8∧(∀j,j<k→bt x j=bt y j)∧bt x k=0∧bt y k=1)∨((∀j,j<k→bt x j=bt y j)∧x / 2 ^ (8-k)=y / 2 ^ (8-k)):=by
    intro k;induction k with
    | zero=>
      intro _;refine Or.inr ⟨fun j hj=>by omega,?_⟩;show x / 256=y / 256;omega
    | succ k ih=>
      intro hk;rcases ih (by omega) with h1 | ⟨h1,h2⟩
      · exact Or.inl h1
      · have e:8-k=(7-k)+1:=by omega
        have e2:8-(k+1)=7-k:=by omega
        have hp:(0:Int)<2 ^ (7-k):=Int.pow_pos (by omega);have hd:∀z:Int,z / 2 ^ (8-k)=z / 2 ^ (7-k) / 2:=by
          intro z;rw [e,Int.pow_succ,Int.ediv_ediv_of_nonneg (by omega)]
        have hm:x / 2 ^ (7-k)≤y / 2 ^ (7-k):=Int.ediv_le_ediv hp (by omega);rw [hd,hd] at h2;rw [e2];have bx:bt x k=x / 2 ^ (7-k) % 2:=rfl;have by':bt y k=y / 2 ^ (7-k) % 2:=rfl;generalize x / 2 ^ (7-k)=X at *;generalize y / 2 ^ (7-k)=Y at *
        by_cases hq:X=Y
        · refine Or.inr ⟨fun j hj=>?_,hq⟩
          rcases Nat.lt_or_ge j k with h5 | h5
          · exact h1 j h5
          · have:j=k:=by omega
            subst this;rw [bx,by',hq]
        · exact Or.inl ⟨k,by omega,h1,by omega,by omega⟩
  rcases key 8 (by omega) with h1 | ⟨_,h2⟩
  · exact h1
  · simp at h2
    omega

theorem ahead_of_byte (hx:Key xs) (hy:Key ys) (i:Nat) (hi:i<32) (he:∀j,j<i→xs.getD j 0=ys.getD j 0) (h:xs.getD i 0<ys.getD i 0):Ahead xs ys:=by
  obtain ⟨k,hk,h1,h2,h3⟩:=byte_first _ _ (hx.byte i) (hy.byte i) h;refine ⟨8 * i+k,by omega,fun j hj=>?_,?_,?_⟩
  · unfold kb
    rcases Nat.lt_or_ge (j / 8) i with e | e
    · rw [he _ e]
    · have e2:j / 8=i:=by omega
      rw [e2];exact h1 _ (by omega)
  · unfold kb
    rw [show (8 * i+k) / 8=i by omega,show (8 * i+k) % 8=k by omega];exact h2
  · unfold kb
    rw [show (8 * i+k) / 8=i by omega,show (8 * i+k) % 8=k by omega];exact h3

theorem cmp_first:∀xs ys:Lq,xs.length=ys.length→(cmp xs ys=0∧xs=ys)∨(cmp xs ys= -1∧∃i,i<xs.length∧(∀j,j<i→xs.getD j 0=ys.getD j 0)∧xs.getD i 0<ys.getD i 0)∨(cmp xs ys=1∧∃i,i<xs.length∧(∀j,j<i→xs.getD j 0=ys.getD j 0)∧ys.getD i 0<xs.getD i 0)
  | [],[],_=>Or.inl ⟨rfl,rfl⟩
  | [],_::_,h=>by simp at h
  | _::_,[],h=>by simp at h
  | a::r,b::s,h=>by
    have ih:=cmp_first r s (by simpa using h)
    by_cases h1:a<b
    · refine Or.inr (Or.inl ⟨by simp [cmp,h1],0,by simp,fun j hj=>by omega,by simpa using h1⟩)
    · by_cases h2:b<a
      · refine Or.inr (Or.inr ⟨by simp [cmp,h1,h2],0,by simp,fun j hj=>by omega,by simpa using h2⟩)
      · have e:a=b:=by omega
        subst e;have hc:cmp (a::r) (a::s)=cmp r s:=by simp [cmp]
        rw [hc];have up:∀i,(∀j,j<i→r.getD j 0=s.getD j 0)→∀j,j<i+1→(a::r).getD j 0=(a::s).getD j 0:=by
          intro i hj j hji;cases j with
          | zero=>simp
          | succ j=>simpa using hj j (by omega)
        rcases ih with ⟨q,rfl⟩ | ⟨q,i,q1,q2,q3⟩ | ⟨q,i,q1,q2,q3⟩
        · exact Or.inl ⟨q,rfl⟩
        · exact Or.inr (Or.inl ⟨q,i+1,by simpa using q1,up i q2,by simpa using q3⟩)
        · exact Or.inr (Or.inr ⟨q,i+1,by simpa using q1,up i q2,by simpa using q3⟩)

theorem cmp_key (hx:Key xs) (hy:Key ys):(cmp xs ys=0∧xs=ys)∨(cmp xs ys= -1∧Ahead xs ys)∨(cmp xs ys=1∧Ahead ys xs):=by
  rcases cmp_first xs ys (by rw [hx.1,hy.1]) with h | ⟨h,i,h1,h2,h3⟩ | ⟨h,i,h1,h2,h3⟩
  · exact Or.inl h
  · exact Or.inr (Or.inl ⟨h,ahead_of_byte hx hy i (by have:=hx.1;omega) h2 h3⟩)
  · exact Or.inr (Or.inr ⟨h,ahead_of_byte hy hx i (by have:=hx.1;omega) (fun j hj=>(h2 j hj).symm) h3⟩)

end Go.Proofs.YtdjpigfibafokaaGreatDoor

namespace Go.Proofs.YtdjpigfibafokaaGreatDoor
variable {c d g:Nat}
variable {w:World}
variable {xs ys zs:Lq}
set_option maxRecDepth 20000
open Go.RowKit

theorem bt_nat (n k:Nat):bt (n:Int) k=if n.testBit (7-k) then 1 else 0:=by
  have h:bt (n:Int) k=((n / 2 ^ (7-k) % 2:Nat):Int):=by unfold bt;norm_cast
  rw [h,Nat.testBit_eq_decide_div_mod_eq];have h2:n / 2 ^ (7-k) % 2<2:=Nat.mod_lt _ (by omega)
  by_cases e:n / 2 ^ (7-k) % 2=1
  · simp [e]
  · have:n / 2 ^ (7-k) % 2=0:=by omega
    simp [this]

theorem nat_of (x:Int) (h:0≤x∧x≤255):∃n:Nat,n<256∧x=n:=⟨x.toNat,by omega,by omega⟩

theorem bt_xor (x y:Int) (hx:0≤x∧x≤255) (hy:0≤y∧y≤255) (k:Nat):bt (bits .xor .u8 x y) k=if bt x k=bt y k then 0 else 1:=by
  obtain ⟨m,hm,rfl⟩:=nat_of x hx;obtain ⟨n,hn,rfl⟩:=nat_of y hy;rw [u8_xor_nat m n hm hn,bt_nat,bt_nat,bt_nat,Nat.testBit_xor];cases m.testBit (7-k) <;> cases n.testBit (7-k) <;> simp
theorem bt_and (x y:Int) (hx:0≤x∧x≤255) (hy:0≤y∧y≤255) (k:Nat):bt (bits .and .u8 x y) k=if bt y k=1 then bt x k else 0:=by
  obtain ⟨m,hm,rfl⟩:=nat_of x hx;obtain ⟨n,hn,rfl⟩:=nat_of y hy;rw [u8_and_nat m n hm hn,bt_nat,bt_nat,bt_nat,Nat.testBit_and];cases m.testBit (7-k) <;> cases n.testBit (7-k) <;> simp
theorem bt_or (x y:Int) (hx:0≤x∧x≤255) (hy:0≤y∧y≤255) (k:Nat):bt (bits .or .u8 x y) k=if bt y k=1 then 1 else bt x k:=by
  obtain ⟨m,hm,rfl⟩:=nat_of x hx;obtain ⟨n,hn,rfl⟩:=nat_of y hy;rw [u8_or_nat m n hm hn,bt_nat,bt_nat,bt_nat,Nat.testBit_or];cases m.testBit (7-k) <;> cases n.testBit (7-k) <;> simp
theorem bt_andNot (x y:Int) (hx:0≤x∧x≤255) (hy:0≤y∧y≤255) (k:Nat) (hk:k<8):bt (bits .andNot .u8 x y) k=if bt y k=1 then 0 else bt x k:=by
  obtain ⟨m,hm,rfl⟩:=nat_of x hx;obtain ⟨n,hn,rfl⟩:=nat_of y hy;have hc:bt ((255-n:Nat):Int) k=1-bt (n:Int) k:=by
    have:=(show ∀n,n<256→∀k,k<8→(255-n) / 2 ^ (7-k) % 2+n / 2 ^ (7-k) % 2=1 from by decide+kernel) n hn k hk;have h1:∀q:Nat,bt (q:Int) k=((q / 2 ^ (7-k) % 2:Nat):Int):=by intro q;unfold bt;norm_cast
    rw [h1,h1];omega
  rw [bt_nat (255-n)] at hc;rw [u8_andNot_nat m n hm hn,bt_nat,Nat.testBit_and,bt_nat m k];have h4:=bt_two (n:Int) k;generalize bt (n:Int) k=u at *;cases m.testBit (7-k) <;> cases e2:(255-n).testBit (7-k) <;> rw [e2] at hc <;> simp at hc <;> rcases h4 with rfl | rfl <;> simp at hc ⊢

theorem bits_byte (op:BinOp) (a b:Int):0≤bits op .u8 a b∧bits op .u8 a b≤255:=bits_within op .u8 a b

theorem ones_nat (k:Nat):(255:Int) / 2 ^ k=((255 / 2 ^ k:Nat):Int):=by
  rw [Int.natCast_ediv,Int.natCast_pow];rfl
theorem bt_ones (k j:Nat) (hk:k<8) (hj:j<8):bt (255 / 2 ^ k) j=if j<k then 0 else 1:=by
  have:=(show ∀k,k<8→∀j,j<8→255 / 2 ^ k / 2 ^ (7-j) % 2=if j<k then 0 else 1 from by decide+kernel) k hk j hj;have h1:∀q:Nat,bt (q:Int) j=((q / 2 ^ (7-j) % 2:Nat):Int):=by intro q;unfold bt;norm_cast
  rw [ones_nat,h1,this]
  by_cases e:j<k
  · rw [if_pos e,if_pos e]
    rfl
  · rw [if_neg e,if_neg e]
    rfl

theorem ones_byte (k:Nat):(0:Int)≤255 / 2 ^ k∧(255:Int) / 2 ^ k≤255:=
  ⟨Int.ediv_nonneg (by omega) (Int.pow_nonneg (by omega)),Int.ediv_le_self _ (by omega)⟩

theorem bt_zero (j:Nat):bt 0 j=0:=by simp [bt]
theorem bt_fill (x r:Int) (hx:0≤x∧x≤255) (hr:0≤r∧r≤255) (k j:Nat) (hk:k<8) (hj:j<8):
    bt (bits .or .u8 (bits .andNot .u8 x (255 / 2 ^ k)) (bits .and .u8 r (255 / 2 ^ k))) j=if j<k then bt x j else bt r j:=by
  rw [bt_or _ _ (bits_byte _ _ _) (bits_byte _ _ _),bt_and _ _ hr (ones_byte k),bt_andNot _ _ hx (ones_byte k) j hj,bt_ones k j hk hj];have h1:=bt_two x j;have h2:=bt_two r j
  by_cases e:j<k
  · simp [e]
  · simp only [e,if_false,if_true]
    rcases h2 with h | h <;> simp [h]

end Go.Proofs.YtdjpigfibafokaaGreatDoor

namespace Go.Proofs.YtdjpigfibafokaaGreatDoor
variable {c d g:Nat}
variable {w:World}
variable {xs ys zs:Lq}
set_option maxRecDepth 20000
open Go.RowKit

def ad (x y:Int):Int:=(x+y) % 4294967296
def rot (x n:Int):Int:=bits .or .u32 (x / 2 ^ n.toNat) (x * 2 ^ (32-n).toNat % 4294967296)
def xo (x y:Int):Int:=bits .xor .u32 x y
def sm0 (x:Int):Int:=xo (xo (rot x 7) (rot x 18)) (x / 8)
def sm1 (x:Int):Int:=xo (xo (rot x 17) (rot x 19)) (x / 1024)
def big0 (x:Int):Int:=xo (xo (rot x 2) (rot x 13)) (rot x 22)
def big1 (x:Int):Int:=xo (xo (rot x 6) (rot x 11)) (rot x 25)
def chs (e f g:Int):Int:=xo (bits .and .u32 e f) (bits .and .u32 (bits .xor .u32 4294967295 e) g)
def maj (a b c:Int):Int:=xo (xo (bits .and .u32 a b) (bits .and .u32 a c)) (bits .and .u32 b c)

def nextWord (b ws:Lq) (k:Nat):Int:=
  if k<16 then b.getD (4 * k) 0 * 16777216+b.getD (4 * k+1) 0 * 65536+b.getD (4 * k+2) 0 * 256+b.getD (4 * k+3) 0
  else ad (ad (ad (sm1 (ws.getD (k-2) 0)) (ws.getD (k-7) 0)) (sm0 (ws.getD (k-15) 0))) (ws.getD (k-16) 0)
def sch (b:Lq):Nat→Lq
  | 0=>[]
  | k+1=>sch b k++[nextWord b (sch b k) k]

theorem sch_length (b:Lq):∀k,(sch b k).length=k
  | 0=>rfl
  | k+1=>by simp [sch,sch_length b k]

def ks:Lq:=[1116352408,1899447441,3049323471,3921009573,961987163,1508970993,2453635748,2870763221,3624381080,310598401,607225278,1426881987,1925078388,2162078206,2614888103,3248222580,3835390401,4022224774,264347078,604807628,770255983,1249150122,1555081692,1996064986,2554220882,2821834349,2952996808,3210313671,3336571891,3584528711,113926993,338241895,666307205,773529912,1294757372,1396182291,1695183700,1986661051,2177026350,2456956037,2730485921,2820302411,3259730800,3345764771,3516065817,3600352804,4094571909,275423344,430227734,506948616,659060556,883997877,958139571,1322822218,1537002063,1747873779,1955562222,2024104815,2227730452,2361852424,2428436474,2756734187,3204031479,3329325298]
def hs:Lq:=[1779033703,3144134277,1013904242,2773480762,1359893119,2600822924,528734635,1541459225]

def rnd (k w:Int):Lq→Lq
  | [a,b,c,d,e,f,g,h]=>
    let t1:=ad (ad (ad (ad h (big1 e)) (chs e f g)) k) w
    [ad t1 (ad (big0 a) (maj a b c)),a,b,c,ad d t1,e,f,g]
  | l=>l
def rds (ws v:Lq):Nat→Lq
  | 0=>v
  | k+1=>rnd (ks.getD k 0) (ws.getD k 0) (rds ws v k)

theorem eight {α:Type} (l:List α) (h:l.length=8):∃a b c d e f g i,l=[a,b,c,d,e,f,g,i]:=by
  match l,h with
  | [a,b,c,d,e,f,g,i],_=>exact ⟨a,b,c,d,e,f,g,i,rfl⟩

theorem rnd_length (k w:Int) (l:Lq) (h:l.length=8):(rnd k w l).length=8:=by
  obtain ⟨a,b,c,d,e,f,g,i,rfl⟩:=eight l h;rfl
theorem rds_length (ws v:Lq) (h:v.length=8):∀k,(rds ws v k).length=8
  | 0=>h
  | k+1=>rnd_length _ _ _ (rds_length ws v h k)

def stp (h b:Lq):Lq:=List.zipWith ad h (rds (sch b 64) h 64)
theorem stp_length (h b:Lq) (hl:h.length=8):(stp h b).length=8:=by
  simp [stp,rds_length _ _ hl,hl]

def eat (l:Lq):Nat→Lq
  | 0=>hs
  | n+1=>stp (eat l n) ((l.drop (64 * n)).take 64)
theorem eat_length (l:Lq):∀n,(eat l n).length=8
  | 0=>rfl
  | n+1=>stp_length _ _ (eat_length l n)

theorem eat_append (l m:Lq):∀n,64 * n≤l.length→eat (l++m) n=eat l n
  | 0,_=>rfl
  | n+1,h=>by
    simp only [eat];rw [eat_append l m n (by omega),List.drop_append_of_le_length (by omega),List.take_append_of_le_length (by rw [List.length_drop];omega)]

def be8 (n:Int):Nat→Lq
  | 0=>[]
  | k+1=>be8 n k++[n / 2 ^ (8 * (7-k)) % 256]
theorem be8_length (n:Int):∀k,(be8 n k).length=k
  | 0=>rfl
  | k+1=>by simp [be8,be8_length n k]
def pad (n:Nat):Lq:=128::List.replicate ((119-n % 64) % 64) 0++be8 (8 * n) 8
theorem pad_length (n:Nat):(pad n).length=9+(119-n % 64) % 64:=by
  simp [pad,be8_length];omega
def out (v:Lq):Lq:=v.flatMap fun x=>[x / 16777216 % 256,x / 65536 % 256,x / 256 % 256,x % 256]
theorem out_bytes (v:Lq):Bytes (out v):=by
  intro z hz;simp only [out,List.mem_flatMap] at hz;obtain ⟨x,_,hz⟩:=hz;simp at hz;omega
theorem out_length (v:Lq):(out v).length=4 * v.length:=by
  induction v with
  | nil=>rfl
  | cons a v ih=>
    have:out (a::v)=[a / 16777216 % 256,a / 65536 % 256,a / 256 % 256,a % 256]++out v:=by simp [out]
    rw [this,List.length_append,ih];simp;omega

def dig (l:Lq):Lq:=out (eat (l++pad l.length) ((l.length+(pad l.length).length) / 64))
theorem dig_bytes (l:Lq):Bytes (dig l):=out_bytes _
theorem dig_length (l:Lq):(dig l).length=32:=by rw [dig,out_length,eat_length]

end Go.Proofs.YtdjpigfibafokaaGreatDoor

namespace Go.Proofs.YtdjpigfibafokaaGreatDoor
variable {c d g:Nat}
variable {w:World}
variable {xs ys zs:Lq}
set_option maxRecDepth 20000
open Go.RowKit

def U (zs:Lq):Array Value:=(zs.map (Value.int .u32)).toArray
theorem U_size (zs:Lq):(U zs).size=zs.length:=by simp [U]
theorem U_get (zs:Lq) (i:Nat) (h:i<zs.length):(U zs)[i]?=some (.int .u32 (zs.getD i 0)):=by simp [U,List.getD,h]
theorem U_toList (zs:Lq):(U zs).toList=zs.map (Value.int .u32):=by simp [U]
theorem U_set (zs:Lq) (i:Nat) (z:Int):(U zs).setIfInBounds i (.int .u32 z)=U (zs.set i z):=by
  apply Array.ext';simp [U,List.map_set]
theorem U_one (zs:Lq):(U zs).all (·.oneCell')=true:=Array.all_eq_true_iff_forall_mem.2 (fun v hv=>by
  simp only [U,List.mem_toArray,List.mem_map] at hv;obtain ⟨z,_,rfl⟩:=hv;rfl)
theorem B_one (zs:Lq):(B zs).all (·.oneCell')=true:=Array.all_eq_true_iff_forall_mem.2 (fun v hv=>by
  simp only [B,List.mem_toArray,List.mem_map] at hv;obtain ⟨z,_,rfl⟩:=hv;rfl)

theorem Blk.wcell {t:TypeId} (h:Blk w g t (U zs)) (i:Nat) (hi:i<zs.length):w.cell? ⟨g,i,none⟩=some (.int .u32 (zs.getD i 0)):=by
  rw [h.cell,U_get zs i hi]
theorem Blk.bcell {t:TypeId} (h:Blk w g t (B zs)) (i:Nat) (hi:i<zs.length):w.cell? ⟨g,i,none⟩=some (.int .u8 (zs.getD i 0)):=by
  rw [h.cell,B_get zs i hi]

theorem zero_w64:∀w,(zeroValue 353).run Tryz.prog w=.ok (.agg (U (List.replicate 64 0))) w:=Tryz.zeroValue353

theorem zero_w8:∀w,(zeroValue 315).run Tryz.prog w=.ok (.agg (U (List.replicate 8 0))) w:=Tryz.zeroValue315

theorem Blk.eight {t:TypeId} {a b c d e f k l:Int} (h:Blk w g t (U [a,b,c,d,e,f,k,l])):
    w.cell? ⟨g,0,none⟩=some (.int .u32 a)∧w.cell? ⟨g,1,none⟩=some (.int .u32 b)∧w.cell? ⟨g,2,none⟩=some (.int .u32 c)∧w.cell? ⟨g,3,none⟩=some (.int .u32 d)∧w.cell? ⟨g,4,none⟩=some (.int .u32 e)∧w.cell? ⟨g,5,none⟩=some (.int .u32 f)∧w.cell? ⟨g,6,none⟩=some (.int .u32 k)∧w.cell? ⟨g,7,none⟩=some (.int .u32 l):=
  ⟨h.wcell 0 (by simp),h.wcell 1 (by simp),h.wcell 2 (by simp),h.wcell 3 (by simp),h.wcell 4 (by simp),h.wcell 5 (by simp),h.wcell 6 (by simp),h.wcell 7 (by simp)⟩

theorem index_w8 (v:Lq) (k:Nat) (hv:v.length=8) (hk:k<8) (w:World):(Instr.index 315 (.agg (U v)) (.int .i64 (k:Int))).run Tryz.prog w=.ok (.int .u32 (v.getD k 0)) w:=by
  have hg:=U_get v k (by omega);simp [Instr.index,asIntOf,part,hg];omega

theorem size_w64:(Tryz.prog.info? 353).map (·.size)=some 64:=by kernel_rfl

theorem size_w8:(Tryz.prog.info? 315).map (·.size)=some 8:=by kernel_rfl

theorem size_b64:(Tryz.prog.info? 316).map (·.size)=some 64:=by kernel_rfl

end Go.Proofs.YtdjpigfibafokaaGreatDoor
