package sign

// What the tests hand digests and tries to, of which no text is known.
var First, Goes, Fits = first, goes, fits
