/- path.fill, First, Last, as contracts. -/
import Derived.Test.YtdjpigfibafokaaGreatDoorDz01
import Derived.Test.YtdjpigfibafokaaGreatDoorDz04
import Derived.Test.YtdjpigfibafokaaGreatDoorDz03
namespace Go.Proofs.YtdjpigfibafokaaGreatDoor
variable {d i k:Nat}
variable {xs ys:Lq}
set_option maxHeartbeats 4000000
set_option maxRecDepth 20000
open Go.RowKit

def FilledB (xs:Lq) (i:Nat) (z r:Int) (k:Nat) (ys:Lq):Prop:=Key ys∧∀j,j<32→ys.getD j 0=if j<i then xs.getD j 0 else if j=i then z else if j<k then r else xs.getD j 0

theorem fill_key {z r b:Int} (hz:∀j,j<8→bt z j=if j<d % 8 then bt (xs.getD (d / 8) 0) j else bt r j) (hr:∀j,j<8→bt r j=b) (h:FilledB xs (d / 8) z r 32 ys):IsFill xs d b ys:=by
  refine ⟨h.1,fun j hj=>?_⟩;have:=h.2 (j / 8) (by omega);unfold kb;rw [this];rcases Nat.lt_trichotomy (j / 8) (d / 8) with e | e | e
  · rw [if_pos e,if_pos (by omega)]
  · rw [if_neg (by omega),if_pos e,hz _ (by omega),hr _ (by omega)]
    by_cases q:j % 8<d % 8
    · rw [if_pos q,if_pos (by omega),e]
    · rw [if_neg q,if_neg (by omega)]
  · rw [if_neg (by omega),if_neg (by omega),if_pos (by omega),if_neg (by omega),hr _ (by omega)]

theorem FilledB.step {z r:Int} (h:FilledB xs i z r k ys) (hk:k<32) (hi:i<k) (hr:0≤r∧r≤255):FilledB xs i z r (k+1) (ys.set k r):=by
  refine ⟨h.1.set k r hr,fun j hj=>?_⟩;rw [key_getD_set _ _ _ _ (by rw [h.1.1];exact hk),h.2 j hj]
  by_cases e:j=k
  · rw [if_pos e,if_neg (by omega),if_neg (by omega),if_pos (by omega)]
  · rw [if_neg e]
    by_cases q:j<i
    · rw [if_pos q,if_pos q]
    · rw [if_neg q,if_neg q]
      by_cases q2:j=i
      · rw [if_pos q2,if_pos q2]
      · rw [if_neg q2,if_neg q2]
        by_cases q3:j<k
        · rw [if_pos q3,if_pos (by omega)]
        · rw [if_neg q3,if_neg (by omega)]

theorem FilledB.start (hx:Key xs) {i:Nat} {z r:Int} (hi:i<32) (hz:0≤z∧z≤255):FilledB xs i z r (i+1) (xs.set i z):=by
  refine ⟨hx.set i z hz,fun j hj=>?_⟩;rw [key_getD_set _ _ _ _ (by rw [hx.1];exact hi)]
  by_cases e:j=i
  · rw [if_pos e,if_neg (by omega),if_pos e]
  · rw [if_neg e,if_neg e]
    by_cases q:j<i
    · rw [if_pos q]
    · rw [if_neg q,if_neg (by omega)]

theorem fill_byte (xs:Lq) (hx:Key xs) (i k:Nat) (hk:k<8) (r:Int) (hr:0≤r∧r≤255):∀j,j<8→bt (bits .or .u8 (bits .andNot .u8 (xs[i]?.getD 0) (255 / 2 ^ k)) (bits .and .u8 r (255 / 2 ^ k))) j=if j<k then bt (xs.getD i 0) j else bt r j:=by
  intro j hj;have e0:xs[i]?.getD 0=xs.getD i 0:=by simp [List.getD]
  rw [e0];exact bt_fill _ _ (hx.byte i) hr k j hk hj

theorem fill_in (xs:Lq) (d:Nat) (r b:Int) (w:World) (hx:Key xs) (hd:d≤256) (hr0:0≤r) (hr1:r≤255) (hb:∀j,j<8→bt r j=b):Kc 325 #[.agg (B xs),.int .i64 d,.int .u8 r] w (KeyPost (IsFill xs d b) 0 w):=by
  have HX:=hidden hx;have HB:=hidden hb;have HI:=isDepth_any d;rw [decide_eq_true (by omega)] at HI;have HI':=hidden HI;have hs:=key_size hx;have HZ:Hid ((B xs).size=32):=by rw [B_size];exact hx.1
  clear HI hx hb
  by_cases hdd:d=256
  · have HF:Hid (IsFill xs d b xs):=⟨HX.out,fun j hj=>by rw [if_pos (by omega)]⟩
    have h1:((d:Int) == 256)=true:=by rw [hdd];rfl
    clear hdd;go_enter Tryz.func325,Tryz.ntmps325
    go_wp2_with (first | (refine wpList_bx _ rfl _ _ rfl _ rfl ?_;intro w1 g1 hg1 hl1 B1 b1) | (refine wpList_al _ rfl _ rfl _ zero_path ?_;intro w2 g2 hg2 hl2 B2 b2;have B1':=B1.grow b2) | (go_at_call 232;refine (HI'.out _).mono ?_;rintro e w3 ⟨rfl,rfl⟩) | (refine wpList_ld _ rfl _ _ rfl g1 _ rfl B1' _ _ u_path hs ?_) | (refine wpList_sto _ rfl _ _ _ rfl g2 _ (B xs) rfl rfl B2 hs (by rw [HZ.out,B_size];simp) (B_one _) ?_;intro w5 B6 g5))
    exact bodyPost_ret (v:=.tuple #[.agg (B xs),.int .i64 0]) (results_row_tmp rfl _ _ g2 _ _ _ _ rfl rfl B6 u_path hs) rfl ⟨_,HF.out,rfl,below_row (grow_trans b1 b2) g5 (Nat.le_trans b1.size hg2)⟩
  · have h1:((d:Int) == 256)=false:=by rw [beq_eq_false_iff_ne];omega
    have h2:((d / 8:Nat):Int)<32:=by omega
    have h3:d<256:=by omega
    clear hdd;have HBY:=hidden (fill_byte xs HX.out (d / 8) (d % 8) (by omega) r ⟨hr0,hr1⟩);go_enter Tryz.func325,Tryz.ntmps325
    go_wp2_with (first | (refine wpList_bx _ rfl _ _ rfl _ rfl ?_;intro w1 g1 hg1 hl1 B1 b1) | (refine wpList_al _ rfl _ rfl _ zero_path ?_;intro w2 g2 hg2 hl2 B2 b2;have B1':=B1.grow b2;have c1:=B1'.bcell (d / 8) (by rw [HX.out.1];omega);have f1:=B1'.frozen (d / 8)) | (go_at_call 232;refine (HI'.out _).mono ?_;rintro e w3 ⟨rfl,rfl⟩))
    go_quiet (fail)
    go_wp2_with fail
    have HF0:=hidden (fun ys h=>fill_key (xs:=xs) (ys:=ys) (d:=d) HBY.out HB.out h);have HZB:=bits_byte .or (bits .andNot .u8 (xs[d / 8]?.getD 0) (255 / 2 ^ (d % 8))) (bits .and .u8 r (255 / 2 ^ (d % 8)));generalize bits .or .u8 (bits .andNot .u8 (xs[d / 8]?.getD 0) (255 / 2 ^ (d % 8))) (bits .and .u8 r (255 / 2 ^ (d % 8)))=z at *;generalize bits .andNot .u8 (xs[d / 8]?.getD 0) (255 / 2 ^ (d % 8))=z1 at *;generalize bits .and .u8 r (255 / 2 ^ (d % 8))=z2 at *;generalize (255:Int) / 2 ^ (d % 8)=z3 at *;generalize xs[d / 8]?.getD 0=z4 at *;generalize (d:Int) % 8=z5 at *;have e1:(d:Int) / 8=((d / 8:Nat):Int):=by omega
    rw [e1];clear e1 HBY;have h4:d / 8<32:=by omega
    generalize d / 8=i at *;have HS:=hidden (FilledB.start (r:=r) HX.out h4 HZB);have B4:=(show Blk (w3.drewN nq) g1 _ _ from B1').bset i z;have B5:=(show Blk (w3.drewN nq) g2 _ _ from B2).other i (.int .u8 z) (g':=g1) (by omega);have c4:Kb w ((w3.drewN nq).setCell ⟨g1,i,none⟩ (.int .u8 z)):=setCell_below _ _ (below_drewN (grow_trans b1 b2) nq) hg1;generalize (w3.drewN nq).setCell ⟨g1,i,none⟩ (.int .u8 z)=w4 at *;have hg3:w.heap.size≤g2:=Nat.le_trans b1.size hg2;have hne:g2≠g1:=by omega
    clear c1 f1 B1 B1' B2 b1 b2 hl1 hl2 hg2
    go_loopw [8] (fun s wr=>∃(k:Nat) (ys:Lq),i<k∧k≤32∧s=.int .i64 k∧Hid (FilledB xs i z r k ys)∧Hid (Blk wr g1 63 (B ys))∧Hid (Blk wr g2 63 (B (List.replicate 32 0)))∧Hid (Kb w wr)) (fun s _=>32-(intOf s).toNat)
    case atStart=>exact ⟨i+1,_,by omega,by omega,by go_num,HS,B4,B5,c4⟩
    case round=>
      clear B4 B5 c4 HS;obtain ⟨k,ys,hk1,hk2,rfl,hF,hB,hC,hb⟩:=hrel
      by_cases hk:k<32
      · have c1:=hB.out.bcell k (by rw [hF.out.1.1];exact hk)
        have f1:=hB.out.frozen k;have hk':(k:Int)<32:=by omega
        go_wp2
        exact ⟨⟨k+1,_,by omega,by omega,by go_num,hF.out.step hk hk1 ⟨hr0,hr1⟩,hB.out.bset k r,hC.out.other k _ hne,setCell_below _ _ hb.out hg1⟩,by simp [intOf];omega⟩
      · obtain rfl:k=32:=by omega
        have hs:=key_size hF.out.1;have HZ:Hid ((B ys).size=32):=by rw [B_size];exact hF.out.1.1
        go_wp2_with (first | (refine wpList_ld _ rfl _ _ rfl g1 _ rfl hB.out _ _ u_path hs ?_) | (refine wpList_sto _ rfl _ _ _ rfl g2 _ (B ys) rfl rfl hC.out hs (by rw [HZ.out,B_size];simp) (B_one _) ?_;intro w5 B6 g5))
        exact bodyPost_ret (v:=.tuple #[.agg (B ys),.int .i64 0]) (results_row_tmp rfl _ _ g2 _ _ _ _ rfl rfl B6 u_path hs) rfl ⟨_,HF0.out _ hF.out,rfl,below_row hb.out g5 hg3⟩

theorem first_of (xs:Lq) (d:Int) (w:World) (hx:Key xs) (p:Lq→Prop) (n:Int) (hp:∀ys,p ys→Key ys) (hc:∀w',Kc 325 #[.agg (B xs),.int .i64 d,.int .u8 0] w' (KeyPost p n w')):Kc 304 #[.agg (B xs),.int .i64 d] w (KeyPost p n w):=by
  have hs:=key_size hx;have HC:=hidden hc;have HP:=hidden hp;clear hc hx hp;go_enter Tryz.func304,Tryz.ntmps304
  go_wp2_with (first | (refine wpList_bx _ rfl _ _ rfl _ rfl ?_;intro w1 g1 hg1 hl1 B1 b1) | (refine wpList_al _ rfl _ rfl _ zero_path ?_;intro w2 g2 hg2 hl2 B2 b2;have B1':=B1.grow b2) | (refine wpList_ld _ rfl _ _ rfl g1 _ rfl B1' _ _ u_path hs ?_) | (go_at_call 325;refine (HC.out _).mono ?_;rintro e w3 ⟨ys,hys,rfl,b3⟩;have B2':=B2.grow b3;have HY:=hidden hys;have hs2:=key_size (HP.out _ hys);have HZ:Hid ((B ys).size=32):=(by rw [B_size];exact (HP.out _ hys).1);clear hys) | (refine wpList_sto _ rfl _ _ _ rfl g2 _ (B ys) rfl rfl B2' hs2 (by rw [HZ.out,B_size];simp) (B_one _) ?_;intro w5 B6 g5))
  exact bodyPost_ret (v:=.tuple #[.agg (B ys),.int .i64 n]) (results_row_tmp rfl _ _ g2 _ _ _ _ rfl rfl B6 u_path hs2) rfl ⟨_,HY.out,rfl,below_row (grow_trans (grow_trans b1 b2) b3) g5 (Nat.le_trans b1.size hg2)⟩

theorem first_in (xs:Lq) (d:Nat) (w:World) (hx:Key xs) (hd:d≤256):Kc 304 #[.agg (B xs),.int .i64 d] w (KeyPost (IsFill xs d 0) 0 w):=
  first_of xs d w hx _ 0 (fun _ h=>h.1) fun w'=>fill_in xs d 0 0 w' hx hd (by omega) (by omega) (fun j _=>bt_zero j)

end Go.Proofs.YtdjpigfibafokaaGreatDoor

namespace Go.Proofs.YtdjpigfibafokaaGreatDoor
variable {d i k:Nat}
variable {xs ys:Lq}
set_option maxHeartbeats 4000000
set_option maxRecDepth 20000
open Go.RowKit

def NextPost (xs:Lq) (w:World) (e:Ending) (w':World):Prop:=∃ys b,((b=true∧IsNext xs ys)∨(b=false∧IsLast xs∧ys=List.replicate 32 0))∧e=.returned (.tuple #[.agg (B ys),.bool b])∧Kb w w'

def Carried (xs:Lq) (k:Nat) (ys:Lq):Prop:=Key ys∧(∀j,k≤j→j<32→xs.getD j 0=255)∧∀j,j<32→ys.getD j 0=if j<k then xs.getD j 0 else 0

end Go.Proofs.YtdjpigfibafokaaGreatDoor

namespace Go.Proofs.YtdjpigfibafokaaGreatDoor
variable {d i k:Nat}
variable {xs ys:Lq}
set_option maxHeartbeats 4000000
set_option maxRecDepth 20000
open Go.RowKit

theorem common_ex (xs ys:Lq):∃c,IsCommon xs ys c:=by
  have key:∀n,n≤256→(∃c,c<n∧(∀j,j<c→kb xs j=kb ys j)∧kb xs c≠kb ys c)∨∀j,j<n→kb xs j=kb ys j:=by
    intro n;induction n with
    | zero=>exact fun _=>Or.inr fun j hj=>by omega
    | succ n ih=>
      intro hn;rcases ih (by omega) with ⟨c,h1,h2⟩ | h
      · exact Or.inl ⟨c,by omega,h2⟩
      · by_cases e:kb xs n=kb ys n
        · refine Or.inr fun j hj=>?_
          rcases Nat.lt_or_ge j n with q | q
          · exact h j q
          · have:j=n:=by omega
            subst this;exact e
        · exact Or.inl ⟨n,by omega,h,e⟩
  rcases key 256 (by omega) with ⟨c,h1,h2,h3⟩ | h
  · exact ⟨c,by omega,h2,fun _=>h3⟩
  · exact ⟨256,by omega,h,fun h=>by omega⟩

theorem of_at (v:Value) (xs:Lq) (w:World) (h:Reads w v xs) (hl:xs.length=32):Kc 88 #[v] w fun e w'=>e=.returned (.tuple #[.agg (B xs),.int .i64 0])∧Kb w w':=by
  refine (of_in v xs w h hl).mono ?_;rintro e w' ⟨ys,h,rfl,b⟩;rw [h];exact ⟨rfl,b⟩

theorem common_at (xs ys:Lq) (c:Nat) (w:World) (hx:Key xs) (hy:Key ys) (hc:IsCommon xs ys c):Kc 233 #[.agg (B xs),.agg (B ys)] w fun e w'=>e=.returned (.int .i64 c)∧Kb w w':=by
  refine (common_any xs ys w hx hy).mono ?_;rintro e w' ⟨c',h,rfl,b⟩;rw [h.one hc];exact ⟨rfl,b⟩

theorem under_at (xs ys:Lq) (d:Int) (b:Bool) (w:World) (hx:Key xs) (hy:Key ys) (hb:b=true↔Und xs ys d):Kc 181 #[.agg (B xs),.agg (B ys),.int .i64 d] w fun e w'=>e=.returned (.bool b)∧Kb w w':=by
  refine (under_any xs ys d w hx hy).mono ?_;rintro e w' ⟨b',h,rfl,q⟩;have:b'=b:=Bool.eq_iff_iff.2 (h.trans hb.symm);rw [this];exact ⟨rfl,q⟩

def kbi (xs:Lq) (d:Int):Int:=if 0≤d∧d<256 then kb xs d.toNat else -1

theorem bit_any (xs:Lq) (d:Int) (w:World) (hx:Key xs):Kc 180 #[.agg (B xs),.int .i64 d] w fun e w'=>e=.returned (.int .i64 (kbi xs d))∧Kb w w':=by
  unfold kbi
  by_cases h:0≤d∧d<256
  · rw [if_pos h]
    have e:d=((d.toNat:Nat):Int):=by omega
    have:=bit_in xs d.toNat w hx (by omega);rw [← e] at this;exact this
  · rw [if_neg h]
    exact bit_out _ _ rfl d w h

end Go.Proofs.YtdjpigfibafokaaGreatDoor

namespace Go.Proofs.YtdjpigfibafokaaGreatDoor
variable {d i k:Nat}
variable {xs ys:Lq}
set_option maxHeartbeats 4000000
set_option maxRecDepth 20000
open Go.RowKit

abbrev Ent:=Lq×Lq

def emD:Lq:=dig [0]
def lfD (K V:Lq):Lq:=dig (1::(K++V))
def inD (a b:Lq):Lq:=dig (2::(a++b))
def vaD (V:Lq):Lq:=dig (3::V)
def enD (e:Ent):Lq:=lfD e.1 (vaD e.2)

def sideOf (l:List Ent) (d:Nat) (b:Int):List Ent:=l.filter fun e=>kbi e.1 d == b

def rt:Nat→Nat→List Ent→Lq
  | _,_,[]=>emD
  | _,_,[e]=>enD e
  | 0,_,_::_::_=>inD emD emD
  | n+1,d,a::b::l=>inD (rt n (d+1) (sideOf (a::b::l) d 0)) (rt n (d+1) (sideOf (a::b::l) d 1))

theorem rt_nil (n d:Nat):rt n d []=emD:=by cases n <;> rfl
theorem rt_one (n d:Nat) (e:Ent):rt n d [e]=enD e:=by cases n <;> rfl
theorem rt_more (n d:Nat) (l:List Ent) (h:2≤l.length):rt (n+1) d l=inD (rt n (d+1) (sideOf l d 0)) (rt n (d+1) (sideOf l d 1)):=by
  match l,h with
  | a::b::l,_=>rfl

theorem rt_perm:∀(n d:Nat) (l m:List Ent),l.Perm m→rt n d l=rt n d m:=by
  intro n;induction n with
  | zero=>
    intro d l m h
    match l,m,h with
    | [],m,h=>rw [List.nil_perm.1 h]
    | [e],m,h=>rw [List.singleton_perm.1 h]
    | a::b::l,[],h=>exact absurd h.length_eq (by simp)
    | a::b::l,[e],h=>exact absurd h.length_eq (by simp)
    | a::b::l,c::d::m,h=>rfl
  | succ n ih=>
    intro d l m h
    match l,m,h with
    | [],m,h=>rw [List.nil_perm.1 h]
    | [e],m,h=>rw [List.singleton_perm.1 h]
    | a::b::l,m,h=>
      have h2:2≤m.length:=by rw [← h.length_eq];simp
      have hs:∀c,(sideOf (a::b::l) d c).Perm (sideOf m d c):=fun c=>h.filter _
      rw [rt_more n d _ (by simp),rt_more n d m h2,ih (d+1) _ _ (hs 0),ih (d+1) _ _ (hs 1)]

def Apart1 (l:List Ent):Prop:=l.Pairwise fun a b=>a.1≠b.1
def Share (l:List Ent) (key:Lq) (d:Nat):Prop:=∀e∈l,∀j,j<d→kb e.1 j=kb key j

theorem kbi_in (xs:Lq) (d:Nat) (h:d<256):kbi xs d=kb xs d:=by
  unfold kbi;rw [if_pos (by omega)];rfl

def sds:Nat→Nat→List Ent→Lq→List (Lq)
  | 0,_,_,_=>[]
  | n+1,d,l,key=>if l.length≤1 then [] else rt n (d+1) (sideOf l d (1-kb key d))::sds n (d+1) (sideOf l d (kb key d)) key
def rst:Nat→Nat→List Ent→Lq→List Ent
  | 0,_,l,_=>l
  | n+1,d,l,key=>if l.length≤1 then l else rst n (d+1) (sideOf l d (kb key d)) key

def upD (key:Lq):Nat→List (Lq)→Lq→Lq
  | _,[],h=>h
  | d,s::r,h=>if kb key d=0 then inD (upD key (d+1) r h) s else inD s (upD key (d+1) r h)

end Go.Proofs.YtdjpigfibafokaaGreatDoor
