/- The document's store: Handles, Occupied, Digest, Node. -/
import Derived.Test.YtgfdgjkbcdmboaaGreatDoorAc35
namespace Go.Proofs.YtgfdgjkbcdmboaaGreatDoor
set_option maxRecDepth 20000
open Go.RowKit
def HnPost (hs:List Nat) (w:World) (e:Ending) (w':World):Prop:=
 ∃a c,e=.returned (.slice a hs.length c)∧w'.ownsRow w.heap.size 3 1 (.slice a hs.length c) hs.length (nats hs)∧Below w.heap.size w w'
set_option maxHeartbeats 4000000 in
theorem Ymz {w:World} {g:Nat} {vp vf:Value} {room:Nat} {cs:List (Nat×Ce)} {ss:List Sp} {fr:List Nat} (h:Rs w g vp vf room ss fr) (R:Rel7 cs [] [] ss) (W:Wf cs []) (h6:cs.length≤5000):Calls Tryz.prog 40 #[.pointer (some ⟨g,0,none⟩)] w (HnPost (slotsOf (cs.map pl)) w):=by
 have HC:Hid (∀w',Below w.heap.size w w'→w'.cell? ⟨g,0,none⟩=some (.bool true)∧w'.cell? ⟨g,2,none⟩=some vp):=fun w' hb=>⟨(h.grow hb).c0,(h.grow hb).c2⟩
 obtain ⟨pa,pc,hvp⟩:=Zi h.sps
 obtain ⟨n,hn⟩:∃n,n=ss.length:=⟨_,rfl⟩
 rw [← hn] at hvp
 have hn6:n≤5000:=by rw [hn,R.len];exact h6
 rw [hvp] at HC
 have HH:Hid (∀w' (k:Nat) (b:Bool),Below w.heap.size w w'→(b=true↔0<cnt (cs.map pl) k)→Calls Tryz.prog 84 #[.pointer (some ⟨g,0,none⟩),.int .i64 ((k:Int)+1)] w' fun e w''=>e=.returned (.bool b)∧w''=w'):=fun w' k b hb hbk=>by
  have:=Zbw (h.grow hb) ((k:Int)+1)
  rw [Zei] at this
  rwa [show decide ((spAt ss k).kind≠0)=b by
   have h1:=R.inn W k
   rw [Zal] at hbk
   cases b with
   | true=>simp;exact h1.2 (hbk.1 rfl)
   | false=>
    simp
    apply Classical.byContradiction
    intro hne
    have:=hbk.2 (h1.1 hne)
    cases this] at this
 have HPost:Hid (∀(hs:List Nat) (a:Option Addr) (m c:Nat) w',m=hs.length→hs=slotsOf (cs.map pl)→w'.ownsRow w.heap.size 3 1 (.slice a m c) m (nats hs)→Below w.heap.size w w'→HnPost (slotsOf (cs.map pl)) w (.returned (.slice a m c)) w'):=fun hs a m c w' e1 e2 o b=>by
  subst e1
  subst e2
  exact ⟨a,c,rfl,o,b⟩
 generalize HnPost (slotsOf (cs.map pl)) w=PP at HPost ⊢
 have HLN:Hid (n=(cs.map pl).length):=by rw [hn,List.length_map];exact R.len
 clear h R W h6 hvp hn
 go_enter Tryz.func40,Tryz.ntmps40
 go_wp2_with fail
 go_loopw [3,4] (fun s i wr=>∃(k m:Nat) (hs:List Nat) (sa:Option Addr) (sc:Nat),k≤n∧m≤k∧i=.int .i64 ((k:Int)+1)∧s=.slice sa m sc∧Hid (m=hs.length)∧Hid (hs=slotsK (cs.map pl) k)∧Hid (wr.ownsRow w.heap.size 3 1 (.slice sa m sc) m (nats hs))∧Hid (Below w.heap.size w wr)) (fun _ i _=>5100-(intOf i).toNat)
 case atStart=>exact ⟨0,0,[],none,0,by omega,by omega,rfl,rfl,rfl,rfl,World.ownsRow_nil _ _ _ _,Below.refl _ _⟩
 case round=>
  obtain ⟨k,m,hs,sa,sc,hk,hmk,rfl,rfl,hm,hsl,ho,hbw⟩:=hrel
  obtain ⟨cz0,cz2⟩:=HC.out _ hbw.out
  by_cases hlt:k<n
  ·have z1:(k:Int)+1≤(n:Int):=by omega
   have hwk:wrap64 ((k:Int)+1+1)=(k:Int)+1+1:=Go.IntWalk.wrap64_in _ (by omega)
   by_cases hc:0<cnt (cs.map pl) k
   ·have HHk:=Za (HH.out wr k true hbw.out (by simp [hc]))
    have HS2:Hid (hs++[k+1]=slotsK (cs.map pl) (k+1)):=by show _=_;rw [Zeu _ _ hc,hsl.out]
    obtain ⟨yk,hyk⟩:∃y:Int,y=(k:Int)+1:=⟨_,rfl⟩
    have HYK:=Za hyk
    have HO1:=Za (Zl ho.out (Zd wr (.cells #[.int .i64 ((k:Int)+1)] 3)))
    clear hc hyk
    go_wp2_with (first
     |(go_at_call 83;refine (Zag g _ cz0).mono ?_;rintro e w' ⟨rfl,hx⟩;rw [hx];clear hx w')
     |(go_at_call 84;refine HHk.out.mono ?_;rintro e w' ⟨rfl,hx⟩;rw [hx];clear hx w')
     |(at_builtin;refine Zam _ rfl _ _ _ rfl w.heap.size 3 1 8 Tryz.underlying30 Zae (by omega) _ m (nats hs) rfl HO1.out wr.heap.size [Value.int .i64 ((k:Int)+1)] rfl (Blk.new _ _ _) rfl (by intro u hu;simp at hu;subst hu;rfl) (by simp only [maxLen];omega) (by omega) (Nat.le_trans hbw.out.size (by simp)) ?_;intro a4 c4 w4 o4 g4;have HO4:=Za o4;have HB4:=Za (Zaa (Zb hbw.out (Zd wr (.cells #[.int .i64 ((k:Int)+1)] 3))) HO1.out (Nat.le_refl _) g4);clear o4 g4))
    have ho4:=HO4.out
    rw [show ((k:Int)+1)=((k+1:Nat):Int) by omega,← Zap] at ho4
    exact ⟨⟨k+1,m+1,hs++[k+1],a4,c4,by omega,by omega,by simp,rfl,by rw [List.length_append,List.length_singleton,← hm.out];exact rfl,HS2,Za ho4,HB4⟩,by simp [intOf];omega⟩
   ·have HHk:=Za (HH.out wr k false hbw.out (by simp [hc]))
    have HS2:Hid (hs=slotsK (cs.map pl) (k+1)):=by show _=_;rw [Zfx _ _ hc,hsl.out]
    clear hc
    go_wp2_with (first
     |(go_at_call 83;refine (Zag g _ cz0).mono ?_;rintro e w' ⟨rfl,hx⟩;rw [hx];clear hx w')
     |(go_at_call 84;refine HHk.out.mono ?_;rintro e w' ⟨rfl,hx⟩;rw [hx];clear hx w'))
    exact ⟨⟨k+1,m,hs,sa,sc,by omega,by omega,by simp,rfl,hm,HS2,ho,hbw⟩,by simp [intOf];omega⟩
  ·obtain rfl:k=n:=by omega
   have z1: ¬(k:Int)+1≤(k:Int):=by omega
   go_wp2_with (first
    |(go_at_call 83;refine (Zag g _ cz0).mono ?_;rintro e w' ⟨rfl,hx⟩;rw [hx];clear hx w'))
   exact HPost.out hs sa m sc _ hm.out (by rw [hsl.out,slotsOf,← HLN.out]) ho.out hbw.out
set_option maxHeartbeats 400000 in
theorem Ymx {w:World} {g:Nat} {vp vf:Value} {room:Nat} {cs:List (Nat×Ce)} {ss:List Sp} {fr:List Nat} (h:Rs w g vp vf room ss fr) (R:Rel7 cs [] [] ss) (W:Wf cs []) (h6:cs.length≤5000):Calls Tryz.prog 37 #[.pointer (some ⟨g,0,none⟩)] w fun e w'=>e=.returned (.int .i64 (noc cs:Int))∧Below w.heap.size w w':=by
 have HH:=Za (Ymz h R W h6)
 have hl:(slotsOf (cs.map pl)).length=noc cs:=Zbi _
 have HE:Hid (Calls Tryz.prog 40 #[.pointer (some ⟨g,0,none⟩)] w fun e w'=>∃a c,e=.returned (.slice a (noc cs) c)∧Below w.heap.size w w'):=HH.out.mono fun e w' ⟨a,c,e1,_,b⟩=>⟨a,c,by rw [← hl];exact e1,b⟩
 generalize noc cs=n at HE ⊢
 clear h R W h6 HH hl
 go_enter Tryz.func37,Tryz.ntmps37
 go_wp2_with (go_at_call 40;refine HE.out.mono ?_;rintro e w1 ⟨a,c,rfl,b1⟩)
 go_ret
 exact ⟨rfl,b1⟩
theorem Zjz:Tryz.prog.underlying 33=some (.array 32 5):=Tryz.underlying33
theorem Zid {xs:List Int} (h:Key xs):(Tryz.prog.info? 33).map (·.size)=some (B xs).size:=by rw [Zm,h.1];exact Zby
theorem Ygx (xs:List Int) (d:Nat) (b z:Int) (hx:Key xs) (hd:d<256) (hb:b=0∨b=1) (hz:z=xs.getD (d / 8) 0+(b-kb xs d) * 2 ^ (7-d % 8)):0≤z∧z≤255∧IsSet xs d b (xs.set (d / 8) z):=by
 obtain ⟨⟨h1,h2⟩,h3⟩:=Yme (xs.getD (d / 8) 0) b (hx.byte _) hb (d % 8) (by omega)
 have e:xs.getD (d / 8) 0+(b-bt (xs.getD (d / 8) 0) (d % 8)) * 2 ^ (7-d % 8)=z:=hz.symm
 rw [e] at h1 h2 h3
 refine ⟨h1,h2,hx.set _ _ ⟨h1,h2⟩,fun j hj=>?_⟩
 rw [Yle _ _ _ _ (by rw [hx.1];omega)]
 by_cases q:j / 8=d / 8
 ·rw [if_pos q,h3 _ (by omega)]
  by_cases p:j % 8=d % 8
  ·rw [if_pos p,if_pos (by omega)]
  ·rw [if_neg p,if_neg (by omega)]
   unfold kb
   rw [q]
 ·rw [if_neg q,if_neg (by omega)]
set_option maxHeartbeats 4000000 in
set_option maxRecDepth 10000 in
theorem Yhi (xs:List Int) (d:Nat) (b:Int) (w:World) (hx:Key xs) (hd:d<256) (hb:b=0∨b=1):Calls Tryz.prog 183 #[.agg (B xs),.int .i64 d,.int .i64 b] w fun e w'=>∃ys,IsSet xs d b ys∧e=.returned (.agg (B ys))∧Below w.heap.size w w':=by
 have HX:=Za hx
 have h2:((d / 8:Nat):Int)<32:=by omega
 have hby:=hx.byte (d / 8)
 obtain ⟨x,hxx⟩:∃x,x=xs.getD (d / 8) 0:=⟨_,rfl⟩
 rw [← hxx] at hby
 have hwx:wrap64 x=x:=Go.IntWalk.wrap64_in _ (by omega)
 obtain ⟨y,hy⟩:∃y,y=kb xs d:=⟨_,rfl⟩
 have hy2:y=0∨y=1:=by rw [hy];exact Zgb xs d
 have cB:Hid (∀w',Calls Tryz.prog 106 #[.agg (B xs),.int .i64 d] w' fun e w''=>e=.returned (.int .i64 y)∧Below w'.heap.size w' w''):=by
  intro w'
  rw [hy]
  exact Zfo xs d w' hx hd
 obtain ⟨W,hW⟩:∃W:Int,W=2 ^ (7-d % 8):=⟨_,rfl⟩
 obtain ⟨f,hf⟩:∃f:Int,f=b-y:=⟨_,rfl⟩
 obtain ⟨m,hm⟩:∃m:Int,m=f * W:=⟨_,rfl⟩
 obtain ⟨z,hz⟩:∃z:Int,z=x+m:=⟨_,rfl⟩
 obtain ⟨z0,z1,hset⟩:=Ygx xs d b z hx hd hb (by rw [hz,hm,hf,hxx,hy,hW])
 have HSET:=Za hset
 have HW:=Za hW
 have w9:IntKind.i64.wrap (b-y)=f:=by rw [IntKind.wrap_i64];omega
 have w11:IntKind.i64.wrap (f * W)=m:=by rw [← hm,IntKind.wrap_i64];omega
 have w12:IntKind.i64.wrap (x+m)=z:=by rw [← hz,IntKind.wrap_i64];omega
 have w13:z % 256=z:=by omega
 have w1:IntKind.i64.wrap ((d:Int) / 8)=(d:Int) / 8:=by rw [IntKind.wrap_i64];omega
 have w4:IntKind.i64.wrap x=x:=by rw [IntKind.wrap_i64];omega
 have hbd:0≤(d:Int) / 8∧(d:Int) / 8<32:=by omega
 have htn:((d:Int) / 8).toNat=d / 8:=by omega
 have HXX:=Za hxx
 have hs:=Zid hx
 have hs2:=Zid hset.1
 have HZ:Hid ((B (xs.set (d / 8) z)).size=32):=by rw [Zm];exact hset.1.1
 have hiX:(Tryz.prog.info? 33).map (·.size)=some (B xs).toList.length:=by rw [Zaf,List.length_map,hx.1];exact Zby
 clear hx hxx hW hf hm hz hset hy2 hb hy
 go_enter Tryz.func183,Tryz.ntmps183
 go_wp2_with (first | (refine Zc _ rfl _ _ rfl _ rfl ?_;intro w1 g1 hg1 hl1 B1 b1) | (refine Zg _ rfl _ rfl _ Zfs ?_;intro w2 g2 hg2 hl2 B2 b2;have B1':=B1.grow b2))
 have c2:=Zb b1 b2
 have hg3:w.heap.size≤g2:=Nat.le_trans b1.size hg2
 have hne:g2≠g1:=by omega
 have HB:Hid (∀w',Below w2.heap.size w2 w'→Blk w' g1 33 (B xs)∧Blk w' g2 33 (B (List.replicate 32 0))):=fun w' hw'=>⟨B1'.grow hw',B2.grow hw'⟩
 have HS:Hid (∀w',Below w2.heap.size w2 w'→w'.rangeAt g1 0 (B xs).toList∧w'.cell? ⟨g1,d / 8,none⟩=some (.int .u8 x)):=fun w' hw'=>⟨(B1'.grow hw').range,by
  have:=(B1'.grow hw').bcell (d / 8) (by rw [HX.out.1];omega)
  rw [← HXX.out] at this
  exact this⟩
 clear B1 B1' B2 b1 b2 hl1 hl2 hg2
 have hm:d % 8<8:=Nat.mod_lt _ (by omega)
 go_loopw [7,8] (fun s i wr=>∃(k:Nat) (v:Int),k≤7-d % 8∧s=.int .i64 v∧i=.int .i64 k∧Hid (v=2 ^ k)∧0≤v∧v≤128∧wr=w2) (fun _ i _=>8-(intOf i).toNat)
 case atStart=>exact ⟨0,1,by omega,rfl,rfl,by show _=_;simp,by omega,by omega,rfl⟩
 case round=>
  obtain ⟨k,v,hk,rfl,rfl,hv,hv0,hv1,hwr⟩:=hrel
  by_cases hlt:k<7-d % 8
  ·subst hwr
   have hlt':(k:Int)<7-(d:Int) % 8:=by omega
   have hv2:v≤64:=by
    have h:=(show ∀k,k<7→2 ^ k≤64 from by decide+kernel) k (by omega)
    rw [hv.out]
    have e:(2:Int) ^ k=((2 ^ k:Nat):Int):=by rw [Int.natCast_pow];rfl
    rw [e]
    exact Int.ofNat_le.2 h
   go_wp2
   exact ⟨⟨k+1,2 * v,by omega,by go_num,by go_num,by show _=_;rw [hv.out,Int.pow_succ,Int.mul_comm],by omega,by omega,trivial⟩,by simp [intOf];omega⟩
  ·have hlt':decide ((k:Int)<7-(d:Int) % 8)=false:=decide_eq_false (by omega)
   obtain rfl:k=7-d % 8:=by omega
   obtain rfl:v=W:=by rw [hv.out,HW.out]
   subst hwr
   obtain ⟨wz,rfl⟩:∃x,x=wr:=⟨_,rfl⟩
   have d0:Below wz.heap.size wz wz.drew:=(Below.refl _ _).drew
   clear hlt hlt'
   go_wp2_with fail
   refine wp_region_held_drew (S:=fun w'=>w'.rangeAt g1 0 (B xs).toList∧w'.cell? ⟨g1,d / 8,none⟩=some (.int .u8 x)) (by kernel_rfl) (HS.out _ d0) (fun hHeld=>?_)
   refine tkp 0 (.int .i64 (d:Int)) hHeld ?_
   simp only [zq]
   refine tkp 1 (.int .i64 ((d:Int) / 8)) hHeld ?_
   simp only [zq]
   refine tkp 2 (.pointer (some ⟨g1,d / 8,none⟩)) hHeld ?_
   simp only [zq]
   refine tkg 3 (.int .u8 x) rfl (Or.inl ⟨by rfl,fun w hS=>by (have q1:=hS.2;go_simp)⟩) hHeld ?_
   simp only [zq]
   refine tkp 4 (.int .i64 x) hHeld ?_
   simp only [zq]
   refine tkp 5 (.int .i64 b) hHeld ?_
   simp only [zq]
   refine tkg 6 (.agg (B xs)) rfl (yieldsIf_load_mid rfl 33 (.tmp 3) rfl g1 0 rfl (B xs).toList _ (fun w hS=>hS.1) Zjz rfl hiX) hHeld ?_
   simp only [zq]
   refine tkp 7 (.int .i64 (d:Int)) hHeld ?_
   simp only [zq]
   refine tkp 10 (.int .i64 v) hHeld ?_
   simp only [zq]
   refine wpAnyH_ready (rs:=[8]) (by kernel_rfl) (by simp) ?_
   refine AllReadyH.cons rfl (fun KQ hK=>?_) AllReadyH.nil
   go_simp
   refine (cB.out _).mono ?_
   rintro e x1 ⟨rfl,a1⟩
   have d1:=Zb d0 a1
   refine hK.out _ _ (HS.out _ d1) (fun hHeld=>?_)
   clear hK KQ
   refine tkp 9 (.int .i64 f) hHeld ?_
   simp only [zq]
   refine tkp 11 (.int .i64 m) hHeld ?_
   simp only [zq]
   refine tkp 12 (.int .i64 z) hHeld ?_
   simp only [zq]
   refine wpAnyH_ready (rs:=[13]) (by kernel_rfl) (by simp) ?_
   refine AllReadyH.cons rfl (fun KQ hK=>?_) AllReadyH.nil
   go_simp
   refine hK.out _ _ (HS.out _ d1) (fun hHeld=>?_)
   clear hK KQ
   refine wpAnyH_done (by kernel_rfl) ?_ _
   have B4:=(HB.out _ d1).1
   have B5:=(HB.out _ d1).2
   have c1:=(HS.out _ d1).2
   have f1:=B4.frozen (d / 8)
   have c4:Below w.heap.size w x1:=Zb c2 d1
   clear HS HB d0 d1 a1 w9 w11 w12 w1 w4 hbd htn
   go_wp2_with (first | (refine Zh _ rfl _ _ rfl g1 _ rfl (B4.bset (d / 8) z) _ _ Zjz hs2 ?_) | (refine Zf _ rfl _ _ _ rfl g2 _ (B (xs.set (d / 8) z)) rfl rfl (B5.other (d / 8) (.int .u8 z) hne) hs2 (by rw [HZ.out,Zm];simp) (Zbe _) ?_;intro w5 B6 g5))
   exact bodyPost_ret (v:=.agg (B (xs.set (d / 8) z))) (results_cell_row rfl _ _ g2 _ _ _ _ rfl B6 Zjz rfl hs2) rfl ⟨_,HSET.out,rfl,Ze (Zz _ _ c4 hg1) g5 hg3⟩
def Cop (xs:List Int) (k:Nat) (ys:List Int):Prop:=ys.length=32∧∀j,j<32→ys.getD j 0=if j<k then xs.getD j 0 else 0
set_option maxHeartbeats 4000000 in
set_option maxRecDepth 10000 in
theorem Zgw (xs ys:List Int) (c:Nat) (w:World) (hx:Key xs) (hy:Key ys) (hc:IsCommon xs ys c):Calls Tryz.prog 192 #[.agg (B xs),.agg (B ys)] w fun e w'=>e=.returned (.int .i64 c)∧Below w.heap.size w w':=by
 have HX:=Za hx
 have HY:=Za hy
 have HC:=Za hc
 have hc0:c≤256:=hc.1
 have hiX:(Tryz.prog.info? 33).map (·.size)=some (B xs).toList.length:=by rw [Zaf,List.length_map,hx.1];exact Zby
 have hiY:(Tryz.prog.info? 33).map (·.size)=some (B ys).toList.length:=by rw [Zaf,List.length_map,hy.1];exact Zby
 clear hx hy hc
 go_enter Tryz.func192,Tryz.ntmps192
 go_wp2_with (first | (have hz:=hl1;clear hz;refine Zc _ rfl _ _ rfl _ rfl ?_;intro w2 g2 hg2 hl2 B2 b2;have B1':=B1.grow b2) | (refine Zc _ rfl _ _ rfl _ rfl ?_;intro w1 g1 hg1 hl1 B1 b1))
 have c2:=Zb b1 b2
 have HS0:Hid (∀w',Below w2.heap.size w2 w'→w'.rangeAt g1 0 (B xs).toList∧w'.rangeAt g2 0 (B ys).toList):=fun w' hw'=>⟨(B1'.grow hw').range,(B2.grow hw').range⟩
 clear B1 B1' B2 b1 b2 hg1 hg2 hl1 hl2
 go_loopw [5] (fun s wr=>∃k:Nat,k≤c∧s=.int .i64 k∧Hid (Below w2.heap.size w2 wr)) (fun s _=>257-(intOf s).toNat)
 case atStart=>exact ⟨0,by omega,rfl,Below.refl _ _⟩
 case round=>
  obtain ⟨k,hk,rfl,hb⟩:=hrel
  obtain ⟨wz,rfl⟩:∃x,x=wr:=⟨_,rfl⟩
  have HS:Hid (∀w',Below wz.heap.size wz w'→w'.rangeAt g1 0 (B xs).toList∧w'.rangeAt g2 0 (B ys).toList):=fun w' hw'=>HS0.out w' (Zb hb.out hw')
  have d0:Below wz.heap.size wz wz.drew:=(Below.refl _ _).drew
  by_cases hk2:k<256
  ·have hk':decide ((k:Int)<256)=true:=decide_eq_true (by omega)
   obtain ⟨x,hx⟩:∃x,x=kb xs k:=⟨_,rfl⟩
   obtain ⟨y,hy⟩:∃y,y=kb ys k:=⟨_,rfl⟩
   have cX:Hid (∀w',Calls Tryz.prog 106 #[.agg (B xs),.int .i64 k] w' fun e w''=>e=.returned (.int .i64 x)∧Below w'.heap.size w' w''):=by
    intro w'
    rw [hx]
    exact Zfo xs k w' HX.out hk2
   have cY:Hid (∀w',Calls Tryz.prog 106 #[.agg (B ys),.int .i64 k] w' fun e w''=>e=.returned (.int .i64 y)∧Below w'.heap.size w' w''):=by
    intro w'
    rw [hy]
    exact Zfo ys k w' HY.out hk2
   by_cases hkc:k<c
   ·have hxy:(x == y)=true:=by rw [beq_iff_eq,hx,hy];exact HC.out.2.1 k hkc
    clear hx hy
    go_wp2_with fail
    refine wp_region_held_drew (S:=fun w'=>w'.rangeAt g1 0 (B xs).toList∧w'.rangeAt g2 0 (B ys).toList) (by kernel_rfl) (HS.out _ d0) (fun hHeld=>?_)
    refine tkp 0 (.int .i64 k) hHeld ?_
    simp only [zq]
    refine tkp 1 (.bool true) hHeld ?_
    simp only [zq]
    refine tkp 2 (.bool true) hHeld ?_
    simp only [zq]
    refine tkg 3 (.agg (B xs)) rfl (yieldsIf_load_mid rfl 33 (.tmp 2) rfl g1 0 rfl (B xs).toList _ (fun w hS=>hS.1) Zjz rfl hiX) hHeld ?_
    simp only [zq]
    refine tkp 4 (.int .i64 k) hHeld ?_
    simp only [zq]
    refine tkg 6 (.agg (B ys)) rfl (yieldsIf_load_mid rfl 33 (.tmp 3) rfl g2 0 rfl (B ys).toList _ (fun w hS=>hS.2) Zjz rfl hiY) hHeld ?_
    simp only [zq]
    refine tkp 7 (.int .i64 k) hHeld ?_
    simp only [zq]
    refine wpAnyH_ready (rs:=[5]) (by kernel_rfl) (by simp) ?_
    refine AllReadyH.cons rfl (fun KQ hK=>?_) AllReadyH.nil
    go_simp
    refine (cX.out _).mono ?_
    rintro e x1 ⟨rfl,a1⟩
    have d1:=Zb d0 a1
    refine hK.out _ _ (HS.out _ d1) (fun hHeld=>?_)
    clear hK KQ
    refine wpAnyH_ready (rs:=[8]) (by kernel_rfl) (by simp) ?_
    refine AllReadyH.cons rfl (fun KQ hK=>?_) AllReadyH.nil
    go_simp
    refine (cY.out _).mono ?_
    rintro e x2 ⟨rfl,a2⟩
    have d2:=Zb d1 a2
    refine hK.out _ _ (HS.out _ d2) (fun hHeld=>?_)
    clear hK KQ
    refine tkp 9 (.bool true) hHeld ?_
    simp only [zq]
    refine tkp 10 (.bool true) hHeld ?_
    simp only [zq]
    refine wpAnyH_done (by kernel_rfl) ?_ _
    go_wp2
    exact ⟨⟨k+1,by omega,by go_num,Zb hb.out d2⟩,by simp [intOf];omega⟩
   ·obtain rfl:k=c:=by omega
    have hxy:(x == y)=false:=by rw [beq_eq_false_iff_ne,hx,hy];exact HC.out.2.2 hk2
    clear hx hy
    go_wp2_with fail
    refine wp_region_held_drew (S:=fun w'=>w'.rangeAt g1 0 (B xs).toList∧w'.rangeAt g2 0 (B ys).toList) (by kernel_rfl) (HS.out _ d0) (fun hHeld=>?_)
    refine tkp 0 (.int .i64 k) hHeld ?_
    simp only [zq]
    refine tkp 1 (.bool true) hHeld ?_
    simp only [zq]
    refine tkp 2 (.bool true) hHeld ?_
    simp only [zq]
    refine tkg 3 (.agg (B xs)) rfl (yieldsIf_load_mid rfl 33 (.tmp 2) rfl g1 0 rfl (B xs).toList _ (fun w hS=>hS.1) Zjz rfl hiX) hHeld ?_
    simp only [zq]
    refine tkp 4 (.int .i64 k) hHeld ?_
    simp only [zq]
    refine tkg 6 (.agg (B ys)) rfl (yieldsIf_load_mid rfl 33 (.tmp 3) rfl g2 0 rfl (B ys).toList _ (fun w hS=>hS.2) Zjz rfl hiY) hHeld ?_
    simp only [zq]
    refine tkp 7 (.int .i64 k) hHeld ?_
    simp only [zq]
    refine wpAnyH_ready (rs:=[5]) (by kernel_rfl) (by simp) ?_
    refine AllReadyH.cons rfl (fun KQ hK=>?_) AllReadyH.nil
    go_simp
    refine (cX.out _).mono ?_
    rintro e x1 ⟨rfl,a1⟩
    have d1:=Zb d0 a1
    refine hK.out _ _ (HS.out _ d1) (fun hHeld=>?_)
    clear hK KQ
    refine wpAnyH_ready (rs:=[8]) (by kernel_rfl) (by simp) ?_
    refine AllReadyH.cons rfl (fun KQ hK=>?_) AllReadyH.nil
    go_simp
    refine (cY.out _).mono ?_
    rintro e x2 ⟨rfl,a2⟩
    have d2:=Zb d1 a2
    refine hK.out _ _ (HS.out _ d2) (fun hHeld=>?_)
    clear hK KQ
    refine tkp 9 (.bool false) hHeld ?_
    simp only [zq]
    refine tkp 10 (.bool false) hHeld ?_
    simp only [zq]
    refine wpAnyH_done (by kernel_rfl) ?_ _
    go_wp2
    go_ret
    exact ⟨rfl,Zb c2 (Zb hb.out d2)⟩
  ·have hk':decide ((k:Int)<256)=false:=decide_eq_false (by omega)
   obtain rfl:k=c:=by omega
   go_wp2_with fail
   refine wp_region_held_drew (S:=fun w'=>w'.rangeAt g1 0 (B xs).toList∧w'.rangeAt g2 0 (B ys).toList) (by kernel_rfl) (HS.out _ d0) (fun hHeld=>?_)
   refine tkp 0 (.int .i64 k) hHeld ?_
   simp only [zq]
   refine tkp 1 (.bool false) hHeld ?_
   simp only [zq]
   refine tkp 2 (.bool false) hHeld ?_
   simp only [zq]
   refine tks 3 hHeld ?_
   simp only [zq]
   refine tks 4 hHeld ?_
   simp only [zq]
   refine tks 6 hHeld ?_
   simp only [zq]
   refine tks 7 hHeld ?_
   simp only [zq]
   refine wpAnyH_ready (rs:=[5]) (by kernel_rfl) (by simp) ?_
   refine AllReadyH.cons rfl (fun KQ hK=>?_) AllReadyH.nil
   go_simp
   refine hK.out _ _ (HS.out _ d0) (fun hHeld=>?_)
   clear hK KQ
   refine wpAnyH_ready (rs:=[8]) (by kernel_rfl) (by simp) ?_
   refine AllReadyH.cons rfl (fun KQ hK=>?_) AllReadyH.nil
   go_simp
   refine hK.out _ _ (HS.out _ d0) (fun hHeld=>?_)
   clear hK KQ
   refine tks 9 hHeld ?_
   simp only [zq]
   refine tkp 10 (.bool false) hHeld ?_
   simp only [zq]
   refine wpAnyH_done (by kernel_rfl) ?_ _
   go_wp2
   go_ret
   exact ⟨rfl,Zb c2 (Zb hb.out d0)⟩
end Go.Proofs.YtgfdgjkbcdmboaaGreatDoor
